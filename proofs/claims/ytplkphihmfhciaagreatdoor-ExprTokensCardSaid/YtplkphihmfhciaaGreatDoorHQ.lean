/-
  Expressions: contracts of the document's own leaf and written.
-/
import Derived.Test.YtplkphihmfhciaaGreatDoorHT
import Derived.Test.YtplkphihmfhciaaGreatDoorHP
namespace Go.Proofs.YtplkphihmfhciaaGreatDoor
open Go Go.RowKit Go.Lib Go.Shelf WM TM EM

def Wt (q : Ending) (l : List Tok) (w w' : World) : Prop := ∃ ao c, q = .returned (.slice ao l.length c) ∧ l.length ≤ c ∧ TokensAt ao l w' ∧ Below w.heap.size w w'
set_option maxRecDepth 100000 in
set_option maxHeartbeats 4000000 in
theorem rleaf (o n : Int) (s : List UInt8) (so : Option Addr) (cap : Nat) (w : World) (ho : o = 1 ∨ o = 2 ∨ o = 3 ∨ o = 4) (h0 : 0 ≤ n) (hn : n ≤ most o) :
  Calls Tryz.prog 60 #[.agg #[.int .i64 o, .int .i64 n, .string (str s), .slice so 0 cap]] w fun q w' => Wt q (leaf o n s) w w' := by
 have TK := Lib.hid (fun k X W => rtoken k X W)
 have hn63 : n ≤ 9223372036854775807 := by
  unfold most at hn
  repeat' split at hn
  all_goals omega
 have IN := Lib.hid (fun W => rint n ⟨by omega, hn63⟩ W)
 have PC := Lib.hid (fun W => rpercent n W)
 have hb2 : Below w.heap.size w (w.alloc (.cells #[.int .i64 o, .int .i64 n, .string (str s), .slice so 0 cap] 27)) := bal (bref w) _
 rcases ho with rfl | rfl | rfl | rfl
 ·go_enter Tryz.func60, Tryz.ntmps60
  go_wp2_with fail
  obtain ⟨W2, hW2⟩ : ∃ W2, (w.alloc (.cells #[.int .i64 1, .int .i64 n, .string (str s), .slice so 0 cap] 27)) = W2 := ⟨_, rfl⟩
  rw [hW2] at hb2
  have b0 : W2.cell? ⟨w.heap.size, 0, none⟩ = some (.int .i64 1) := by rw [← hW2]; simp [go_sem]
  have b1 : W2.cell? ⟨w.heap.size, 1, none⟩ = some (.int .i64 n) := by rw [← hW2]; simp [go_sem]
  have b2 : W2.cell? ⟨w.heap.size, 2, none⟩ = some (.string (str s)) := by rw [← hW2]; simp [go_sem]
  rw [hW2]
  clear hW2
  go_wp2_with fail
  refine (IN.out _).mono ?_
  rintro r u0 ⟨rfl, rfl⟩
  go_wp2_with fail
  refine (TK.out _ _ _).mono ?_
  rintro r u ⟨rfl, hb⟩
  go_wp2_with fail
  go_ret
  exact ⟨_, 1, rfl, Nat.le_refl _, tok_new u 2 (itoa n) _, bal (btr hb2 hb) _⟩
 ·go_enter Tryz.func60, Tryz.ntmps60
  go_wp2_with fail
  obtain ⟨W2, hW2⟩ : ∃ W2, (w.alloc (.cells #[.int .i64 2, .int .i64 n, .string (str s), .slice so 0 cap] 27)) = W2 := ⟨_, rfl⟩
  rw [hW2] at hb2
  have b0 : W2.cell? ⟨w.heap.size, 0, none⟩ = some (.int .i64 2) := by rw [← hW2]; simp [go_sem]
  have b1 : W2.cell? ⟨w.heap.size, 1, none⟩ = some (.int .i64 n) := by rw [← hW2]; simp [go_sem]
  have b2 : W2.cell? ⟨w.heap.size, 2, none⟩ = some (.string (str s)) := by rw [← hW2]; simp [go_sem]
  rw [hW2]
  clear hW2
  go_wp2_with fail
  refine wp_region_held_drew (S := (fun W => Below W2.heap.size W2 W)) (by kernel_rfl) (bdr (bref _)) (fun hH0 => ?_)
  refine wpAnyH_take (i := 1) (oi := _) (v := ?_) rfl (by kernel_rfl) (by kernel_rfl) (by kernel_rfl) (fun _ _ _ h => h) (Or.inl ⟨?_, ?_⟩) hH0 ?_
  rotate_left
  ·kernel_rfl
  ·(intro W' hSw; have f0 := keepc hSw b0; have f1 := keepc hSw b1; have f2 := keepc hSw b2; go_simp; (try with_reducible rfl))
  (try simp only [List.getElem_toArray])
  (try simp only [List.getElem_cons_succ])
  (try simp only [List.getElem_cons_zero])
  (try simp only [Act.put])
  (try simp only [List.setIfInBounds_toArray])
  (try simp only [List.set_cons_succ])
  (try simp only [List.set_cons_zero])
  refine wpAnyH_take (i := 2) (oi := _) (v := ?_) rfl (by kernel_rfl) (by kernel_rfl) (by kernel_rfl) (fun _ _ _ h => h) (Or.inl ⟨?_, ?_⟩) hH0 ?_
  rotate_left
  ·kernel_rfl
  ·(intro W' hSw; have f0 := keepc hSw b0; have f1 := keepc hSw b1; have f2 := keepc hSw b2; go_simp; (try with_reducible rfl))
  (try simp only [List.getElem_toArray])
  (try simp only [List.getElem_cons_succ])
  (try simp only [List.getElem_cons_zero])
  (try simp only [Act.put])
  (try simp only [List.setIfInBounds_toArray])
  (try simp only [List.set_cons_succ])
  (try simp only [List.set_cons_zero])
  refine wpAnyH_ready (rs := [0]) (by kernel_rfl) (by simp) ?_
  refine AllReadyH.cons (o := _) rfl (fun K hK => ?_) AllReadyH.nil
  go_simp
  refine (TK.out _ _ _).mono ?_
  rintro r u0 ⟨rfl, hq0⟩
  refine hK.out _ _ (btr hH0 hq0) (fun hH1 => ?_)
  clear hK K
  (try simp only [List.getElem_toArray])
  (try simp only [List.getElem_cons_succ])
  (try simp only [List.getElem_cons_zero])
  (try simp only [Act.put])
  (try simp only [List.setIfInBounds_toArray])
  (try simp only [List.set_cons_succ])
  (try simp only [List.set_cons_zero])
  refine wpAnyH_ready (rs := [3]) (by kernel_rfl) (by simp) ?_
  refine AllReadyH.cons (o := _) rfl (fun K hK => ?_) AllReadyH.nil
  go_simp
  refine (IN.out _).mono ?_
  rintro r u1 ⟨rfl, rfl⟩
  refine hK.out _ _ hH1 (fun hH2 => ?_)
  clear hK K
  (try simp only [List.getElem_toArray])
  (try simp only [List.getElem_cons_succ])
  (try simp only [List.getElem_cons_zero])
  (try simp only [Act.put])
  (try simp only [List.setIfInBounds_toArray])
  (try simp only [List.set_cons_succ])
  (try simp only [List.set_cons_zero])
  refine wpAnyH_ready (rs := [4]) (by kernel_rfl) (by simp) ?_
  refine AllReadyH.cons (o := _) rfl (fun K hK => ?_) AllReadyH.nil
  go_simp
  refine (TK.out _ _ _).mono ?_
  rintro r u2 ⟨rfl, hq2⟩
  refine hK.out _ _ (btr hH2 hq2) (fun hH3 => ?_)
  clear hK K
  (try simp only [List.getElem_toArray])
  (try simp only [List.getElem_cons_succ])
  (try simp only [List.getElem_cons_zero])
  (try simp only [Act.put])
  (try simp only [List.setIfInBounds_toArray])
  (try simp only [List.set_cons_succ])
  (try simp only [List.set_cons_zero])
  refine wpAnyH_ready (rs := [5]) (by kernel_rfl) (by simp) ?_
  refine AllReadyH.cons (o := _) rfl (fun K hK => ?_) AllReadyH.nil
  go_simp
  refine hK.out _ _ (bal hH3 _) (fun hH4 => ?_)
  clear hK K
  (try simp only [List.getElem_toArray])
  (try simp only [List.getElem_cons_succ])
  (try simp only [List.getElem_cons_zero])
  (try simp only [Act.put])
  (try simp only [List.setIfInBounds_toArray])
  (try simp only [List.set_cons_succ])
  (try simp only [List.set_cons_zero])
  refine wpAnyH_take (i := 6) (oi := _) (v := ?_) rfl (by kernel_rfl) (by kernel_rfl) (by kernel_rfl) (fun _ _ _ h => h) (Or.inl ⟨?_, ?_⟩) hH4 ?_
  rotate_left
  ·kernel_rfl
  ·(intro W' hSw; have f0 := keepc hSw b0; have f1 := keepc hSw b1; have f2 := keepc hSw b2; go_simp; (try with_reducible rfl))
  (try simp only [List.getElem_toArray])
  (try simp only [List.getElem_cons_succ])
  (try simp only [List.getElem_cons_zero])
  (try simp only [Act.put])
  (try simp only [List.setIfInBounds_toArray])
  (try simp only [List.set_cons_succ])
  (try simp only [List.set_cons_zero])
  refine wpAnyH_done (by kernel_rfl) ?_ _
  go_wp2_with fail
  go_ret
  exact ⟨_, 2, rfl, Nat.le_refl _, tok_new2 _ 4 [36] 2 (itoa n) _, btr hb2 hH4⟩
 ·have hpv : pV n = qT n := by
   have h3 : n ≤ 1000000 := hn
   unfold pV qT
   rw [if_pos (by omega)]
  go_enter Tryz.func60, Tryz.ntmps60
  go_wp2_with fail
  obtain ⟨W2, hW2⟩ : ∃ W2, (w.alloc (.cells #[.int .i64 3, .int .i64 n, .string (str s), .slice so 0 cap] 27)) = W2 := ⟨_, rfl⟩
  rw [hW2] at hb2
  have b0 : W2.cell? ⟨w.heap.size, 0, none⟩ = some (.int .i64 3) := by rw [← hW2]; simp [go_sem]
  have b1 : W2.cell? ⟨w.heap.size, 1, none⟩ = some (.int .i64 n) := by rw [← hW2]; simp [go_sem]
  have b2 : W2.cell? ⟨w.heap.size, 2, none⟩ = some (.string (str s)) := by rw [← hW2]; simp [go_sem]
  rw [hW2]
  clear hW2
  go_wp2_with fail
  refine (PC.out _).mono ?_
  rintro r u0 ⟨rfl, rfl⟩
  rw [hpv]
  go_wp2_with fail
  refine (TK.out _ _ _).mono ?_
  rintro r u ⟨rfl, hb⟩
  go_wp2_with fail
  go_ret
  exact ⟨_, 1, rfl, Nat.le_refl _, tok_new u 3 (qT n) _, bal (btr hb2 hb) _⟩
 ·go_enter Tryz.func60, Tryz.ntmps60
  go_wp2_with fail
  obtain ⟨W2, hW2⟩ : ∃ W2, (w.alloc (.cells #[.int .i64 4, .int .i64 n, .string (str s), .slice so 0 cap] 27)) = W2 := ⟨_, rfl⟩
  rw [hW2] at hb2
  have b0 : W2.cell? ⟨w.heap.size, 0, none⟩ = some (.int .i64 4) := by rw [← hW2]; simp [go_sem]
  have b1 : W2.cell? ⟨w.heap.size, 1, none⟩ = some (.int .i64 n) := by rw [← hW2]; simp [go_sem]
  have b2 : W2.cell? ⟨w.heap.size, 2, none⟩ = some (.string (str s)) := by rw [← hW2]; simp [go_sem]
  rw [hW2]
  clear hW2
  go_wp2_with fail
  refine (TK.out _ _ _).mono ?_
  rintro r u ⟨rfl, hb⟩
  go_wp2_with fail
  go_ret
  exact ⟨_, 1, rfl, Nat.le_refl _, tok_new u 1 s _, bal (btr hb2 hb) _⟩
def WC (x : Ex) : Prop := ∀ (so : Option Addr) (cap r : Nat) (z : Int) (w : World), z = (r : Int) → r ≤ 8 → right x = true → siz x ≤ 100000 → ExprsAt so x.args w →
 Calls Tryz.prog 33 #[.agg #[.int .i64 x.op, .int .i64 x.n, .string (str x.s), .slice so x.args.length cap], .int .i64 z] w fun q w' => Wt q (wr r x) w w'
theorem keep_ex {W2 : World} {so : Option Addr} {l : List Ex} (h : ExprsAt so l W2) {w0 : World} (hb : Below W2.heap.size W2 w0) : ExprsAt so l w0 := h.keep hb
set_option maxRecDepth 100000 in
set_option maxHeartbeats 4000000 in
theorem wk_leaf (o n : Int) (s : List UInt8) (so : Option Addr) (cap r : Nat) (z : Int) (w : World) (hz : z = (r : Int)) (hr8 : r ≤ 8) (hr : right (.mk o n s []) = true) (hrk : ¬ rk o < r) :
  Calls Tryz.prog 33 #[.agg #[.int .i64 o, .int .i64 n, .string (str s), .slice so 0 cap], .int .i64 z] w fun q w' => Wt q (body (.mk o n s [])) w w' := by
 obtain ⟨h1, h2, h3, _⟩ := fmd_parts (right_parts hr).1
 have ho := opn_zero (o := o) (by simpa using h1.symm)
 have LF := Lib.hid (fun W => rleaf o n s so cap W ho h2 h3)
 have e8 : ((rk o : Nat) : Int) = 8 := by rcases ho with rfl | rfl | rfl | rfl <;> decide
 have RK := Lib.hid (fun W => rrank o W)
 rw [e8] at RK
 have hzz : ¬ ((8 : Int) < z) := by omega
 have hb2 : Below w.heap.size w (w.alloc (.cells #[.int .i64 o, .int .i64 n, .string (str s), .slice so 0 cap] 27)) := bal (bref w) _
 have hbody : body (.mk o n s []) = leaf o n s := by rw [body]
 rw [hbody]
 clear ho e8 hz hr8 hr hrk h1 h2 h3 hbody
 go_enter Tryz.func33, Tryz.ntmps33
 go_wp2_with fail
 obtain ⟨W2, hW2⟩ : ∃ W2, (w.alloc (.cells #[.int .i64 o, .int .i64 n, .string (str s), .slice so 0 cap] 27)) = W2 := ⟨_, rfl⟩
 rw [hW2] at hb2
 have b00 : W2.cell? ⟨w.heap.size, 0, none⟩ = some (.int .i64 o) := by rw [← hW2]; simp [go_sem]
 have b10 : W2.cell? ⟨w.heap.size, 1, none⟩ = some (.int .i64 n) := by rw [← hW2]; simp [go_sem]
 have b20 : W2.cell? ⟨w.heap.size, 2, none⟩ = some (.string (str s)) := by rw [← hW2]; simp [go_sem]
 have b30 : W2.cell? ⟨w.heap.size, 3, none⟩ = some (.slice so 0 cap) := by rw [← hW2]; simp [go_sem]
 rw [hW2]
 clear hW2
 have HW2 := Lib.hid hb2
 clear hb2
 have hb2 := HW2.out
 refine (RK.out _).mono ?_
 rintro r w1 ⟨rfl, rfl⟩
 have b0 := b00
 have b1 := b10
 have b2 := b20
 have b3 := b30
 go_wp2_with fail
 refine (LF.out _).mono ?_
 rintro r w1 ⟨ao, c, rfl, hc, hT, hb⟩
 have HT := Lib.hid hT
 have HB := Lib.hid (btr HW2.out hb)
 clear hT hb
 go_wp2_with fail
 go_ret
 exact ⟨ao, c, rfl, hc, HT.out, HB.out⟩
set_option maxRecDepth 100000 in
set_option maxHeartbeats 4000000 in
theorem wk_one16 (n : Int) (s : List UInt8) (a : Ex) (ih : WC a) (so : Option Addr) (cap r : Nat) (z : Int) (w : World) (hz : z = (r : Int)) (hr8 : r ≤ 8) (hr : right (.mk 16 n s [a]) = true) (hs : siz (.mk 16 n s [a]) ≤ 100000) (h : ExprsAt so [a] w) (hrk : ¬ rk 16 < r) :
  Calls Tryz.prog 33 #[.agg #[.int .i64 16, .int .i64 n, .string (str s), .slice so 1 cap], .int .i64 z] w fun q w' => Wt q (body (.mk 16 n s [a])) w w' := by
 have hra := (right_parts hr).2 a (by simp)
 rw [siz_one] at hs
 have TK := Lib.hid (fun k X W => rtoken k X W)
 have RK := Lib.hid (fun W => rrank 16 W)
 have e3 : ((rk 16 : Nat) : Int) = 3 := by decide
 rw [e3] at RK
 have hzz : ¬ ((3 : Int) < z) := by { have : rk 16 = 3 := (by decide); omega }
 have hla := wr_len 3 a
 obtain ⟨ba, oa, so2, cap2, rfl, hba, d0, d1, d2, d3, hA, _⟩ := h.at 0 (by simp)
 have HP := Lib.hid (wr_pos hra 3)
 have AT := Lib.hid (fun W (hW : Below w.heap.size w W) => ih so2 cap2 3 3 W rfl (by omega) hra (by omega) (hA.keep hW))
 have hb2 : Below w.heap.size w (w.alloc (.cells #[.int .i64 16, .int .i64 n, .string (str s), .slice (some ⟨ba, oa, none⟩) 1 cap] 27)) := bal (bref w) _
 simp only [List.getD_cons_zero, Nat.zero_mul, Nat.add_zero] at d0 d1 d2 d3 hA AT
 replace d0 := keepc hb2 d0
 replace d1 := keepc hb2 d1
 replace d2 := keepc hb2 d2
 replace d3 := keepc hb2 d3
 clear hz hr8 hr hrk h e3 hA
 go_enter Tryz.func33, Tryz.ntmps33
 go_wp2_with fail
 obtain ⟨W2, hW2⟩ : ∃ W2, (w.alloc (.cells #[.int .i64 16, .int .i64 n, .string (str s), .slice (some ⟨ba, oa, none⟩) 1 cap] 27)) = W2 := ⟨_, rfl⟩
 rw [hW2] at hb2 d0 d1 d2 d3
 have b00 : W2.cell? ⟨w.heap.size, 0, none⟩ = some (.int .i64 16) := by rw [← hW2]; simp [go_sem]
 have b10 : W2.cell? ⟨w.heap.size, 1, none⟩ = some (.int .i64 n) := by rw [← hW2]; simp [go_sem]
 have b20 : W2.cell? ⟨w.heap.size, 2, none⟩ = some (.string (str s)) := by rw [← hW2]; simp [go_sem]
 have b30 : W2.cell? ⟨w.heap.size, 3, none⟩ = some (.slice (some ⟨ba, oa, none⟩) 1 cap) := by rw [← hW2]; simp [go_sem]
 rw [hW2]
 clear hW2
 have HW2 := Lib.hid hb2
 clear hb2
 have hb2 := HW2.out
 have e00 := d0
 have e10 := d1
 have e20 := d2
 have e30 := d3
 clear d0 d1 d2 d3
 refine (RK.out _).mono ?_
 rintro r w0 ⟨rfl, rfl⟩
 have b0 := b00
 have b1 := b10
 have b2 := b20
 have b3 := b30
 go_wp2_with fail
 refine (TK.out _ _ _).mono ?_
 rintro r u1 ⟨rfl, hb⟩
 have HU1 := Lib.hid (btr (bref W2) hb)
 have HK1 := Lib.hid (OT.keep (OT.nil W2.heap.size W2) hb)
 clear hb
 have b0 := keepc HU1.out b00
 have b1 := keepc HU1.out b10
 have b2 := keepc HU1.out b20
 have b3 := keepc HU1.out b30
 have e0 := keepc HU1.out e00
 have e1 := keepc HU1.out e10
 have e2 := keepc HU1.out e20
 have e3 := keepc HU1.out e30
 go_wp2_with (at_builtin; refine wpList_app_toks rfl (.tmp 134) (.tmp 136) rfl W2.heap.size (.slice none 0 0) [] rfl (OT.keep HK1.out (bal (bref _) _)) (some ⟨u1.heap.size, 0, none⟩) [EM.tk 5 wNot] 1 rfl (tok_new _ _ _ _) (fun h => by cases h) (by simp only [List.length_append, List.length_cons, List.length_nil]; omega) (bal HU1.out _).size ?_; intro v1 w1 ox bx; have HO1 := Lib.hid ox; have HB1 := Lib.hid ((bal HU1.out _).trans bx); have b0 := keepc HB1.out b00; have b1 := keepc HB1.out b10; have b2 := keepc HB1.out b20; have b3 := keepc HB1.out b30; have e0 := keepc HB1.out e00; have e1 := keepc HB1.out e10; have e2 := keepc HB1.out e20; have e3 := keepc HB1.out e30; clear ox bx)
 go_wp2_with fail
 refine (AT.out _ (btr HW2.out HB1.out)).mono ?_
 rintro r u2 ⟨ao2, c2, rfl, hc, hT, hb⟩
 have HU2 := Lib.hid (btr HB1.out hb)
 have HK2 := Lib.hid (OT.keep HO1.out hb)
 have HT2 := Lib.hid hT
 clear hb hT hc
 have b0 := keepc HU2.out b00
 have b1 := keepc HU2.out b10
 have b2 := keepc HU2.out b20
 have b3 := keepc HU2.out b30
 have e0 := keepc HU2.out e00
 have e1 := keepc HU2.out e10
 have e2 := keepc HU2.out e20
 have e3 := keepc HU2.out e30
 go_wp2_with (at_builtin; refine wpList_app_toks rfl (.tmp 138) (.tmp 144) rfl W2.heap.size v1 (([] ++ [EM.tk 5 wNot])) rfl HK2.out ao2 (wr 3 a) c2 rfl HT2.out (fun h => absurd h (tok_some HT2.out HP.out)) (by simp only [List.length_append, List.length_cons, List.length_nil]; omega) HU2.out.size ?_; intro v2 w2 ox bx; have HO2 := Lib.hid ox; have HB2 := Lib.hid (HU2.out.trans bx); have b0 := keepc HB2.out b00; have b1 := keepc HB2.out b10; have b2 := keepc HB2.out b20; have b3 := keepc HB2.out b30; have e0 := keepc HB2.out e00; have e1 := keepc HB2.out e10; have e2 := keepc HB2.out e20; have e3 := keepc HB2.out e30; clear ox bx)
 have hO := HO2.out
 rw [show ((([] ++ [EM.tk 5 wNot])) ++ (wr 3 a)) = body (.mk 16 n s [a]) from by (rw [body]; rfl)] at hO
 obtain ⟨bo, d, rfl, hcd, hTd, _⟩ := hO.shape
 have HTd := Lib.hid hTd
 clear hO hTd
 go_wp2_with fail
 go_ret
 exact ⟨bo, d, rfl, hcd, HTd.out, btr hb2 HB2.out⟩
set_option maxRecDepth 100000 in
set_option maxHeartbeats 4000000 in
theorem wk_one9 (n : Int) (s : List UInt8) (a : Ex) (ih : WC a) (so : Option Addr) (cap r : Nat) (z : Int) (w : World) (hz : z = (r : Int)) (hr8 : r ≤ 8) (hr : right (.mk 9 n s [a]) = true) (hs : siz (.mk 9 n s [a]) ≤ 100000) (h : ExprsAt so [a] w) (hrk : ¬ rk 9 < r) :
  Calls Tryz.prog 33 #[.agg #[.int .i64 9, .int .i64 n, .string (str s), .slice so 1 cap], .int .i64 z] w fun q w' => Wt q (body (.mk 9 n s [a])) w w' := by
 have hra := (right_parts hr).2 a (by simp)
 rw [siz_one] at hs
 have TK := Lib.hid (fun k X W => rtoken k X W)
 have RK := Lib.hid (fun W => rrank 9 W)
 have e3 : ((rk 9 : Nat) : Int) = 7 := by decide
 rw [e3] at RK
 have hzz : ¬ ((7 : Int) < z) := by { have : rk 9 = 7 := (by decide); omega }
 have hla := wr_len 7 a
 obtain ⟨ba, oa, so2, cap2, rfl, hba, d0, d1, d2, d3, hA, _⟩ := h.at 0 (by simp)
 have HP := Lib.hid (wr_pos hra 7)
 have AT := Lib.hid (fun W (hW : Below w.heap.size w W) => ih so2 cap2 7 7 W rfl (by omega) hra (by omega) (hA.keep hW))
 have hb2 : Below w.heap.size w (w.alloc (.cells #[.int .i64 9, .int .i64 n, .string (str s), .slice (some ⟨ba, oa, none⟩) 1 cap] 27)) := bal (bref w) _
 simp only [List.getD_cons_zero, Nat.zero_mul, Nat.add_zero] at d0 d1 d2 d3 hA AT
 replace d0 := keepc hb2 d0
 replace d1 := keepc hb2 d1
 replace d2 := keepc hb2 d2
 replace d3 := keepc hb2 d3
 clear hz hr8 hr hrk h e3 hA
 go_enter Tryz.func33, Tryz.ntmps33
 go_wp2_with fail
 obtain ⟨W2, hW2⟩ : ∃ W2, (w.alloc (.cells #[.int .i64 9, .int .i64 n, .string (str s), .slice (some ⟨ba, oa, none⟩) 1 cap] 27)) = W2 := ⟨_, rfl⟩
 rw [hW2] at hb2 d0 d1 d2 d3
 have b00 : W2.cell? ⟨w.heap.size, 0, none⟩ = some (.int .i64 9) := by rw [← hW2]; simp [go_sem]
 have b10 : W2.cell? ⟨w.heap.size, 1, none⟩ = some (.int .i64 n) := by rw [← hW2]; simp [go_sem]
 have b20 : W2.cell? ⟨w.heap.size, 2, none⟩ = some (.string (str s)) := by rw [← hW2]; simp [go_sem]
 have b30 : W2.cell? ⟨w.heap.size, 3, none⟩ = some (.slice (some ⟨ba, oa, none⟩) 1 cap) := by rw [← hW2]; simp [go_sem]
 rw [hW2]
 clear hW2
 have HW2 := Lib.hid hb2
 clear hb2
 have hb2 := HW2.out
 have e00 := d0
 have e10 := d1
 have e20 := d2
 have e30 := d3
 clear d0 d1 d2 d3
 refine (RK.out _).mono ?_
 rintro r w0 ⟨rfl, rfl⟩
 have b0 := b00
 have b1 := b10
 have b2 := b20
 have b3 := b30
 go_wp2_with fail
 refine (TK.out _ _ _).mono ?_
 rintro r u1 ⟨rfl, hb⟩
 have HU1 := Lib.hid (btr (bref W2) hb)
 have HK1 := Lib.hid (OT.keep (OT.nil W2.heap.size W2) hb)
 clear hb
 have b0 := keepc HU1.out b00
 have b1 := keepc HU1.out b10
 have b2 := keepc HU1.out b20
 have b3 := keepc HU1.out b30
 have e0 := keepc HU1.out e00
 have e1 := keepc HU1.out e10
 have e2 := keepc HU1.out e20
 have e3 := keepc HU1.out e30
 go_wp2_with (at_builtin; refine wpList_app_toks rfl (.tmp 150) (.tmp 152) rfl W2.heap.size (.slice none 0 0) [] rfl (OT.keep HK1.out (bal (bref _) _)) (some ⟨u1.heap.size, 0, none⟩) [EM.tk 4 [45]] 1 rfl (tok_new _ _ _ _) (fun h => by cases h) (by simp only [List.length_append, List.length_cons, List.length_nil]; omega) (bal HU1.out _).size ?_; intro v1 w1 ox bx; have HO1 := Lib.hid ox; have HB1 := Lib.hid ((bal HU1.out _).trans bx); have b0 := keepc HB1.out b00; have b1 := keepc HB1.out b10; have b2 := keepc HB1.out b20; have b3 := keepc HB1.out b30; have e0 := keepc HB1.out e00; have e1 := keepc HB1.out e10; have e2 := keepc HB1.out e20; have e3 := keepc HB1.out e30; clear ox bx)
 go_wp2_with fail
 refine (AT.out _ (btr HW2.out HB1.out)).mono ?_
 rintro r u2 ⟨ao2, c2, rfl, hc, hT, hb⟩
 have HU2 := Lib.hid (btr HB1.out hb)
 have HK2 := Lib.hid (OT.keep HO1.out hb)
 have HT2 := Lib.hid hT
 clear hb hT hc
 have b0 := keepc HU2.out b00
 have b1 := keepc HU2.out b10
 have b2 := keepc HU2.out b20
 have b3 := keepc HU2.out b30
 have e0 := keepc HU2.out e00
 have e1 := keepc HU2.out e10
 have e2 := keepc HU2.out e20
 have e3 := keepc HU2.out e30
 go_wp2_with (at_builtin; refine wpList_app_toks rfl (.tmp 154) (.tmp 160) rfl W2.heap.size v1 (([] ++ [EM.tk 4 [45]])) rfl HK2.out ao2 (wr 7 a) c2 rfl HT2.out (fun h => absurd h (tok_some HT2.out HP.out)) (by simp only [List.length_append, List.length_cons, List.length_nil]; omega) HU2.out.size ?_; intro v2 w2 ox bx; have HO2 := Lib.hid ox; have HB2 := Lib.hid (HU2.out.trans bx); have b0 := keepc HB2.out b00; have b1 := keepc HB2.out b10; have b2 := keepc HB2.out b20; have b3 := keepc HB2.out b30; have e0 := keepc HB2.out e00; have e1 := keepc HB2.out e10; have e2 := keepc HB2.out e20; have e3 := keepc HB2.out e30; clear ox bx)
 have hO := HO2.out
 rw [show ((([] ++ [EM.tk 4 [45]])) ++ (wr 7 a)) = body (.mk 9 n s [a]) from by (rw [body]; rfl)] at hO
 obtain ⟨bo, d, rfl, hcd, hTd, _⟩ := hO.shape
 have HTd := Lib.hid hTd
 clear hO hTd
 go_wp2_with fail
 go_ret
 exact ⟨bo, d, rfl, hcd, HTd.out, btr hb2 HB2.out⟩
end Go.Proofs.YtplkphihmfhciaaGreatDoor
