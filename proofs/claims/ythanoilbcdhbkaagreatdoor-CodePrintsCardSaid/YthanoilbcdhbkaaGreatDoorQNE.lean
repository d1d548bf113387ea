/-
  The document's push and meet; lists of ints that grow.
-/
import Derived.Test.YthanoilbcdhbkaaGreatDoorQK
namespace Go.Proofs.YthanoilbcdhbkaaGreatDoor
open Go Go.RowKit Go.Lib Go.Shelf WM TM EM YM

def OL (base : Nat) (v : Value) (l : List Int) (W : World) : Prop := W.ownsRow base 3 1 v l.length (vals l)
theorem vals_len (l : List Int) : (vals l).length = l.length := List.length_map _
theorem vals_app (l m : List Int) : vals (l ++ m) = vals l ++ vals m := List.map_append
theorem OL.shape {base : Nat} {v : Value} {l : List Int} {W : World} (h : OL base v l W) : ∃ ao c, v = .slice ao l.length c ∧ LI ao c l W ∧ ∀ a, ao = some a → base ≤ a.block := own_li h
theorem OL.keep {base : Nat} {v : Value} {l : List Int} {W W' : World} (h : OL base v l W) (hb : Below W.heap.size W W') : OL base v l W' := own_below h hb
theorem OL.lit (w : World) : OL w.heap.size (.slice (some ⟨w.heap.size, 0, none⟩) 0 0) [] (w.alloc (.cells #[] 3)) := World.ownsRow_lit (w := w) (base := w.heap.size) (e := 3) (size := 1) #[] 0 (Nat.le_refl _) (by unfold maxLen; omega) rfl
theorem OL.cut {base g n c : Nat} {l : List Int} {W : World} (h : OL base (.slice (some ⟨g, 0, none⟩) n c) l W) (k : Nat) (hk : k ≤ l.length) : OL base (.slice (some ⟨g, 0, none⟩) k c) (l.take k) W := by
 have hkl : (l.take k).length = k := by rw [List.length_take]; omega
 have hv : vals (l.take k) = (vals l).take k := List.map_take
 refine ⟨by rw [vals_len, hkl, Nat.mul_one], ?_⟩
 rcases h.2 with ⟨h1, _⟩ | ⟨g', cap, cur, e, hb, hg, hnc, hm, hcs, htake⟩
 ·cases h1
 ·cases e
  refine Or.inr ⟨g, c, cur, by rw [hkl], hb, hg, by rw [hkl]; omega, hm, hcs, ?_⟩
  rw [hkl, hv, ← htake, List.take_take]
  congr 1
  omega
theorem app_ints_run {w : World} (base : Nat) (v : Value) (l : List Int) (hown : OL base v l w) (ao : Option Addr) (m c : Nat) (zs : List Int) (hm : zs.length = m) (hI : IntsAt ao zs w) (hn : ao = none → m = 0 ∧ c = 0) (hl : l.length + zs.length ≤ 1000000) (hbase : base ≤ w.heap.size) :
  ∃ v' w', (Builtin.append_ #[85, 85] 85 #[v, .slice ao m c]).run Tryz.prog w = .ok v' w' ∧ OL base v' (l ++ zs) w' ∧ Below base w w' := by
 obtain ⟨i, hi, hz, hz1, hz2⟩ := info_parts info3
 subst hm
 obtain ⟨v', w', hr, h1, h2, _⟩ := append_any (P := Tryz.prog) (w := w) base 85 85 3 i _ 1 8 Tryz.underlying85 hi hz hz1 hz2 rfl (by decide) v l.length (vals l) hown ao zs.length c (vals zs) (by rw [vals_len, Nat.mul_one]) hn (news_of hI rfl) (one_vals zs) (by unfold maxLen; omega) (by omega) hbase
 refine ⟨v', w', hr, ?_, ?_⟩
 ·unfold OL
  rw [List.length_append, vals_app]
  exact h1
 ·exact (Sav.grown h2).below (fun k e => (hown.lt k e).1) hbase
theorem wpList_app_ints {w : World} {ops : Array Oper} {rest : List Oper} {o : Oper} {a : Act} {Q : Exit → Act → World → Prop} (hgd : o.guard = none) (s x : Operand)
  (ho : o.op = .call { callee := .builtin .append, args := #[s, x], argTypes := #[85, 85] }) (hty : o.type = 85)
  (base : Nat) (v : Value) (l : List Int) (hs : a.eval s = v) (hown : OL base v l w) (ao : Option Addr) (m c : Nat) (zs : List Int) (hx : a.eval x = .slice ao m c) (hm : zs.length = m) (hI : IntsAt ao zs w) (hn : ao = none → m = 0 ∧ c = 0)
  (hl : l.length + zs.length ≤ 1000000) (hbase : base ≤ w.heap.size)
  (h : ∀ v' w', OL base v' (l ++ zs) w' → Below base w w' → wpList Tryz.prog ops Q rest (a.put o.dst v') w') : wpList Tryz.prog ops Q (o :: rest) a w := by
 obtain ⟨v', w', hrun, r1, r2⟩ := app_ints_run base v l hown ao m c zs hm hI hn hl hbase
 refine wpList_plain hgd fun K hK' => ?_
 unfold Oper.wp
 simp [execOp, ho, hty, resolve, invoke, builtin, hs, hx, hrun, Result.andThen]
 exact hK' _ _ (h v' w' r1 r2)

/-! ### push -/
set_option maxRecDepth 100000 in
set_option maxHeartbeats 2000000 in
theorem rpush (o a n : Int) (w : World) :
  Calls Tryz.prog 87 #[.agg #[.int .i64 o, .int .i64 a, .int .i64 n]] w fun r w' => r = .returned (.bool (pushB a n)) ∧ Below w.heap.size w w' := by
 by_cases h0 : 0 ≤ n
 ·by_cases a1 : a = 1
  ·subst a1
   have hr : pushB 1 n = true := by unfold pushB; simp [h0]
   rw [hr]
   go_enter Tryz.func87, Tryz.ntmps87
   go_wp2_with fail
   go_ret
   exact ⟨by simp, by repeat (first | exact bref _ | refine bdr ?_ | refine bal ?_ _)⟩
  by_cases a2 : a = 2
  ·subst a2
   by_cases h1 : n ≤ 1000000000000
   ·have hr : pushB 2 n = true := by unfold pushB; simp [h0, h1]
    rw [hr]
    go_enter Tryz.func87, Tryz.ntmps87
    go_wp2_with fail
    go_ret
    exact ⟨by first | rfl | simp [h0, h1], by repeat (first | exact bref _ | refine bdr ?_ | refine bal ?_ _)⟩
   ·have hr : pushB 2 n = false := by unfold pushB; simp [h1]
    rw [hr]
    go_enter Tryz.func87, Tryz.ntmps87
    go_wp2_with fail
    go_ret
    exact ⟨by first | rfl | simp [h0, h1], by repeat (first | exact bref _ | refine bdr ?_ | refine bal ?_ _)⟩
  by_cases a3 : a = 3
  ·subst a3
   by_cases h1 : n ≤ 1000000
   ·have hr : pushB 3 n = true := by unfold pushB; simp [h0, h1]
    rw [hr]
    go_enter Tryz.func87, Tryz.ntmps87
    go_wp2_with fail
    go_ret
    exact ⟨by first | rfl | simp [h0, h1], by repeat (first | exact bref _ | refine bdr ?_ | refine bal ?_ _)⟩
   ·have hr : pushB 3 n = false := by unfold pushB; simp [h1]
    rw [hr]
    go_enter Tryz.func87, Tryz.ntmps87
    go_wp2_with fail
    go_ret
    exact ⟨by first | rfl | simp [h0, h1], by repeat (first | exact bref _ | refine bdr ?_ | refine bal ?_ _)⟩
  ·have hr : pushB a n = false := by unfold pushB; simp [a1, a2, a3]
   have b1 : (a == 1) = false := beq_no a1
   have b2 : (a == 2) = false := beq_no a2
   have b3 : (a == 3) = false := beq_no a3
   rw [hr]
   go_enter Tryz.func87, Tryz.ntmps87
   go_wp2_with fail
   go_ret
   exact ⟨rfl, by repeat (first | exact bref _ | refine bdr ?_ | refine bal ?_ _)⟩
 ·have hr : pushB a n = false := by unfold pushB; simp [h0]
  rw [hr]
  by_cases a1 : a = 1
  ·subst a1
   go_enter Tryz.func87, Tryz.ntmps87
   go_wp2_with fail
   go_ret
   exact ⟨by first | rfl | simp [h0], by repeat (first | exact bref _ | refine bdr ?_ | refine bal ?_ _)⟩
  by_cases a2 : a = 2
  ·subst a2
   go_enter Tryz.func87, Tryz.ntmps87
   go_wp2_with fail
   go_ret
   exact ⟨by first | rfl | simp [h0], by repeat (first | exact bref _ | refine bdr ?_ | refine bal ?_ _)⟩
  by_cases a3 : a = 3
  ·subst a3
   go_enter Tryz.func87, Tryz.ntmps87
   go_wp2_with fail
   go_ret
   exact ⟨by first | rfl | simp [h0], by repeat (first | exact bref _ | refine bdr ?_ | refine bal ?_ _)⟩
  have b1 : (a == 1) = false := beq_no a1
  have b2 : (a == 2) = false := beq_no a2
  have b3 : (a == 3) = false := beq_no a3
  go_enter Tryz.func87, Tryz.ntmps87
  go_wp2_with fail
  go_ret
  exact ⟨rfl, by repeat (first | exact bref _ | refine bdr ?_ | refine bal ?_ _)⟩

/-! ### meet -/
theorem res_state {fn : Func} {p : Tmp} (h : fn.results = #[.cell p 96]) (tmps : Array Value) (w : World) (b : Nat) (hp : tmps.getD p undef = .pointer (some ⟨b, 0, none⟩)) (x0 x1 x2 : Value) (h0 : w.cell? ⟨b, 0, none⟩ = some x0) (h1 : w.cell? ⟨b, 1, none⟩ = some x1) (h2 : w.cell? ⟨b, 2, none⟩ = some x2) :
  (results fn tmps).run Tryz.prog w = .ok (.agg #[x0, x1, x2]) w := by
 rw [Array.getD_eq_getD_getElem?] at hp
 simp [results, h, hp, go_sem, h0, h1, h2]
def SVal (s : St) (r m : Bool) (l : List Int) : Prop := l.length ≤ 1000 ∧ r = s.isSome ∧ m = decide (s = some none) ∧ ∀ l', s = some (some l') → l' = l
theorem SVal.first (t : List Int) (ht : t.length ≤ 1000) : SVal (meet none t) true false t := ⟨ht, rfl, by simp [meet], fun l' e => by simp [meet] at e; exact e.symm⟩
theorem SVal.same {s : St} {m : Bool} {l : List Int} (h : SVal s true m l) : SVal (meet s l) true m l := by
 obtain ⟨h1, h2, h3, h4⟩ := h
 match s, h2, h4 with
 | some none, _, _ => exact ⟨h1, rfl, h3, fun l' e => by simp [meet] at e⟩
 | some (some q), _, h4 =>
  obtain rfl := h4 q rfl
  exact ⟨h1, by simp [meet], by simp [meet]; simpa using h3, fun l' e => by simp [meet] at e; exact e.symm⟩
theorem SVal.other {s : St} {m : Bool} {l t : List Int} (h : SVal s true m l) (hne : l ≠ t) : SVal (meet s t) true true l := by
 obtain ⟨h1, h2, h3, h4⟩ := h
 match s, h2, h4 with
 | some none, _, _ => exact ⟨h1, rfl, by simp [meet], fun l' e => by simp [meet] at e⟩
 | some (some q), _, h4 =>
  obtain rfl := h4 q rfl
  exact ⟨h1, by simp [meet, hne], by simp [meet, hne], fun l' e => by simp [meet, hne] at e⟩
theorem Sav.put {X : Nat → Prop} {w w' : World} (h : Sav X w w') (p : Addr) (u : Value) (hp : X p.block) : Sav X w (w'.setCell p u) := h.trans (Sav.setCell w' p u) (fun n _ e => by have e' : n = p.block := e; rw [e']; exact hp)
theorem SVal.none_of {s : St} {m : Bool} {l : List Int} (h : SVal s false m l) : s = none ∧ m = false := by
 obtain ⟨_, h2, h3, _⟩ := h
 match s, h2, h3 with
 | none, _, h3 => exact ⟨rfl, by simpa using h3⟩
set_option maxRecDepth 100000 in
set_option maxHeartbeats 8000000 in
theorem rmeet (s : St) (r m : Bool) (l : List Int) (ao : Option Addr) (c : Nat) (t : List Int) (bo : Option Addr) (bc : Nat) (w : World) (hs : SVal s r m l) (hL : LI ao c l w) (ht : t.length ≤ 1000) (hT : LI bo bc t w) :
  Calls Tryz.prog 63 #[.agg #[.bool r, .bool m, .slice ao l.length c], .slice bo t.length bc] w fun q w' => ∃ r' m' ao' c' l', q = .returned (.agg #[.bool r', .bool m', .slice ao' l'.length c']) ∧ SVal (meet s t) r' m' l' ∧ LI ao' c' l' w' ∧ From w ao ao' ∧ Below w.heap.size w w' := by
 cases r with
 | false =>
  obtain ⟨rfl, rfl⟩ := hs.none_of
  have SV := Lib.hid (SVal.first t ht)
  have HT := Lib.hid (fun W (hW : Below w.heap.size w W) => (hT.keep hW).ints)
  have HN := Lib.hid hT.nil
  obtain ⟨k, hk⟩ : ∃ k, t.length = k := ⟨_, rfl⟩
  obtain ⟨n, hn⟩ : ∃ k, l.length = k := ⟨_, rfl⟩
  have HK := Lib.hid hk
  rw [hk] at HN ht
  rw [hk, hn]
  have HB2 := Lib.hid (show Below w.heap.size w ((w.alloc (.cells #[.bool false, .bool false, .slice ao n c] 96)).alloc (.cells #[.bool false, .bool false, .slice none 0 0] 96)) from bal (bal (bref w) _) _)
  have HB3 := Lib.hid (show Below w.heap.size w (((w.alloc (.cells #[.bool false, .bool false, .slice ao n c] 96)).alloc (.cells #[.bool false, .bool false, .slice none 0 0] 96)).alloc (.cells #[] 3)) from bal HB2.out _)
  have HO := Lib.hid (show OL (w.heap.size + 2) (.slice (some ⟨w.heap.size + 2, 0, none⟩) 0 0) [] (((w.alloc (.cells #[.bool false, .bool false, .slice ao n c] 96)).alloc (.cells #[.bool false, .bool false, .slice none 0 0] 96)).alloc (.cells #[] 3)) from by
   have := OL.lit ((w.alloc (.cells #[.bool false, .bool false, .slice ao n c] 96)).alloc (.cells #[.bool false, .bool false, .slice none 0 0] 96))
   simpa using this)
  clear hs hL hT hk hn
  go_enter Tryz.func63, Tryz.ntmps63
  go_wp2_with (at_builtin; refine wpList_app_ints rfl (.tmp 18) (.tmp 19) rfl rfl (w.heap.size + 2) _ [] rfl HO.out bo k bc t rfl HK.out (HT.out _ HB3.out) HN.out (by have := HK.out; simp; omega) (by simp) ?_; intro v1 w1 o1 b1; have x0 := (b1.cell (p := ⟨w.heap.size, 0, none⟩) (by simp)).trans (show _ = some (.bool false) by simp [go_sem]); have x1 := (b1.cell (p := ⟨w.heap.size, 1, none⟩) (by simp)).trans (show _ = some (.bool false) by simp [go_sem]); have x2 := (b1.cell (p := ⟨w.heap.size, 2, none⟩) (by simp)).trans (show _ = some (.slice ao n c) by simp [go_sem]); have y0 := (b1.cell (p := ⟨w.heap.size + 1, 0, none⟩) (by simp)).trans (show _ = some (.bool false) by simp [go_sem]); have y1 := (b1.cell (p := ⟨w.heap.size + 1, 1, none⟩) (by simp)).trans (show _ = some (.bool false) by simp [go_sem]); have y2 := (b1.cell (p := ⟨w.heap.size + 1, 2, none⟩) (by simp)).trans (show _ = some (.slice none 0 0) by simp [go_sem]); have f0 := (b1.frozen (p := ⟨w.heap.size, 0, none⟩) (by simp)).trans (show _ = false by simp [go_sem]); have f2 := (b1.frozen (p := ⟨w.heap.size, 2, none⟩) (by simp)).trans (show _ = false by simp [go_sem]); have g0 := (b1.frozen (p := ⟨w.heap.size + 1, 0, none⟩) (by simp)).trans (show _ = false by simp [go_sem]); have g1 := (b1.frozen (p := ⟨w.heap.size + 1, 1, none⟩) (by simp)).trans (show _ = false by simp [go_sem]); have g2 := (b1.frozen (p := ⟨w.heap.size + 1, 2, none⟩) (by simp)).trans (show _ = false by simp [go_sem]); obtain ⟨ao1, c1, rfl, hl1, hb1⟩ := o1.shape; rw [List.nil_append] at hl1 ⊢; rw [HK.out]; have HL1 := Lib.hid hl1; have HBL := Lib.hid hb1; have HB4 := Lib.hid (HB3.out.trans (b1.mono (by omega))); clear o1 b1 hl1 hb1)
  refine bodyPost_ret (res_state rfl _ _ _ rfl (.bool true) (.bool false) (.slice ao1 k c1) (by simp [go_sem, y0]) (by simp [go_sem, y1]) (by simp [go_sem, y2])) rfl ?_
  refine ⟨true, false, ao1, c1, t, by rw [HK.out], SV.out, ?_, ?_, ?_⟩
  ·exact HL1.out.sav (((((Sav.refl (fun k => k < w.heap.size + 2) w1).put ⟨w.heap.size, 2, none⟩ _ (by show w.heap.size < _; omega)).put ⟨w.heap.size, 0, none⟩ _ (by show w.heap.size < _; omega)).put ⟨w.heap.size + 1, 0, none⟩ _ (by show w.heap.size + 1 < _; omega)).put ⟨w.heap.size + 1, 1, none⟩ _ (by show w.heap.size + 1 < _; omega) |>.put ⟨w.heap.size + 1, 2, none⟩ _ (by show w.heap.size + 1 < _; omega)) (fun a ha => by have := HBL.out a ha; show ¬ a.block < w.heap.size + 2; omega)
  ·exact fun a ha => Or.inl (by have := HBL.out a ha; omega)
  ·exact bset (bset (bset (bset (bset HB4.out (by simp) _) (by simp) _) (by simp) _) (by simp) _) (by simp) _
 | true =>
  have EQ := Lib.hid (fun W (hW : Below w.heap.size w W) => rEqI ao bo l t c bc W (by have := hs.1; omega) (hL.keep hW).ints (hT.keep hW).ints)
  have HL := Lib.hid (fun W (hW : Below w.heap.size w W) => hL.keep hW)
  have HAB := Lib.hid (fun a (e : ao = some a) (hl : 0 < l.length) => show a.block < w.heap.size by obtain ⟨b, off, e2, hb⟩ := hL.spot hl; rw [e] at e2; cases e2; exact hb)
  obtain ⟨k, hk⟩ : ∃ k, t.length = k := ⟨_, rfl⟩
  obtain ⟨n, hn⟩ : ∃ k, l.length = k := ⟨_, rfl⟩
  have HN := Lib.hid hn
  rw [hk, hn] at EQ
  rw [hk, hn]
  have HB2 := Lib.hid (show Below w.heap.size w ((w.alloc (.cells #[.bool true, .bool m, .slice ao n c] 96)).alloc (.cells #[.bool false, .bool false, .slice none 0 0] 96)) from bal (bal (bref w) _) _)
  by_cases hlt : l = t
  ·have SV := Lib.hid (hlt ▸ hs.same : SVal (meet s t) true m l)
   rw [decide_eq_true hlt] at EQ
   clear hs hL hT hk hn hlt ht
   go_enter Tryz.func63, Tryz.ntmps63
   go_wp2_with fail
   refine (EQ.out _ HB2.out).mono ?_
   rintro q w1 ⟨rfl, b1⟩
   have x0 := keepc b1 (show ((w.alloc (.cells #[.bool true, .bool m, .slice ao n c] 96)).alloc (.cells #[.bool false, .bool false, .slice none 0 0] 96)).cell? ⟨w.heap.size, 0, none⟩ = some (.bool true) by simp [go_sem])
   have f0 := keepf b1 (show ((w.alloc (.cells #[.bool true, .bool m, .slice ao n c] 96)).alloc (.cells #[.bool false, .bool false, .slice none 0 0] 96)).cell? ⟨w.heap.size, 0, none⟩ = some (.bool true) by simp [go_sem]) (show ((w.alloc (.cells #[.bool true, .bool m, .slice ao n c] 96)).alloc (.cells #[.bool false, .bool false, .slice none 0 0] 96)).frozen? ⟨w.heap.size, 0, none⟩ = false by simp [go_sem])
   have x1 := keepc b1 (show ((w.alloc (.cells #[.bool true, .bool m, .slice ao n c] 96)).alloc (.cells #[.bool false, .bool false, .slice none 0 0] 96)).cell? ⟨w.heap.size, 1, none⟩ = some (.bool m) by simp [go_sem])
   have f1 := keepf b1 (show ((w.alloc (.cells #[.bool true, .bool m, .slice ao n c] 96)).alloc (.cells #[.bool false, .bool false, .slice none 0 0] 96)).cell? ⟨w.heap.size, 1, none⟩ = some (.bool m) by simp [go_sem]) (show ((w.alloc (.cells #[.bool true, .bool m, .slice ao n c] 96)).alloc (.cells #[.bool false, .bool false, .slice none 0 0] 96)).frozen? ⟨w.heap.size, 1, none⟩ = false by simp [go_sem])
   have x2 := keepc b1 (show ((w.alloc (.cells #[.bool true, .bool m, .slice ao n c] 96)).alloc (.cells #[.bool false, .bool false, .slice none 0 0] 96)).cell? ⟨w.heap.size, 2, none⟩ = some (.slice ao n c) by simp [go_sem])
   have f2 := keepf b1 (show ((w.alloc (.cells #[.bool true, .bool m, .slice ao n c] 96)).alloc (.cells #[.bool false, .bool false, .slice none 0 0] 96)).cell? ⟨w.heap.size, 2, none⟩ = some (.slice ao n c) by simp [go_sem]) (show ((w.alloc (.cells #[.bool true, .bool m, .slice ao n c] 96)).alloc (.cells #[.bool false, .bool false, .slice none 0 0] 96)).frozen? ⟨w.heap.size, 2, none⟩ = false by simp [go_sem])
   have y0 := keepc b1 (show ((w.alloc (.cells #[.bool true, .bool m, .slice ao n c] 96)).alloc (.cells #[.bool false, .bool false, .slice none 0 0] 96)).cell? ⟨w.heap.size + 1, 0, none⟩ = some (.bool false) by simp [go_sem])
   have g0 := keepf b1 (show ((w.alloc (.cells #[.bool true, .bool m, .slice ao n c] 96)).alloc (.cells #[.bool false, .bool false, .slice none 0 0] 96)).cell? ⟨w.heap.size + 1, 0, none⟩ = some (.bool false) by simp [go_sem]) (show ((w.alloc (.cells #[.bool true, .bool m, .slice ao n c] 96)).alloc (.cells #[.bool false, .bool false, .slice none 0 0] 96)).frozen? ⟨w.heap.size + 1, 0, none⟩ = false by simp [go_sem])
   have y1 := keepc b1 (show ((w.alloc (.cells #[.bool true, .bool m, .slice ao n c] 96)).alloc (.cells #[.bool false, .bool false, .slice none 0 0] 96)).cell? ⟨w.heap.size + 1, 1, none⟩ = some (.bool false) by simp [go_sem])
   have g1 := keepf b1 (show ((w.alloc (.cells #[.bool true, .bool m, .slice ao n c] 96)).alloc (.cells #[.bool false, .bool false, .slice none 0 0] 96)).cell? ⟨w.heap.size + 1, 1, none⟩ = some (.bool false) by simp [go_sem]) (show ((w.alloc (.cells #[.bool true, .bool m, .slice ao n c] 96)).alloc (.cells #[.bool false, .bool false, .slice none 0 0] 96)).frozen? ⟨w.heap.size + 1, 1, none⟩ = false by simp [go_sem])
   have y2 := keepc b1 (show ((w.alloc (.cells #[.bool true, .bool m, .slice ao n c] 96)).alloc (.cells #[.bool false, .bool false, .slice none 0 0] 96)).cell? ⟨w.heap.size + 1, 2, none⟩ = some (.slice none 0 0) by simp [go_sem])
   have g2 := keepf b1 (show ((w.alloc (.cells #[.bool true, .bool m, .slice ao n c] 96)).alloc (.cells #[.bool false, .bool false, .slice none 0 0] 96)).cell? ⟨w.heap.size + 1, 2, none⟩ = some (.slice none 0 0) by simp [go_sem]) (show ((w.alloc (.cells #[.bool true, .bool m, .slice ao n c] 96)).alloc (.cells #[.bool false, .bool false, .slice none 0 0] 96)).frozen? ⟨w.heap.size + 1, 2, none⟩ = false by simp [go_sem])
   have HB4 := Lib.hid (btr HB2.out b1)
   clear b1
   go_wp2_with fail
   refine bodyPost_ret (res_state rfl _ _ _ rfl (.bool true) (.bool m) (.slice ao n c) (by simp [go_sem, y0]) (by simp [go_sem, y1]) (by simp [go_sem, y2])) rfl ?_
   refine ⟨true, m, ao, c, l, by rw [HN.out], SV.out, ?_, ?_, ?_⟩
   ·exact HL.out _ (bset (bset (bset (bset HB4.out (by simp) _) (by simp) _) (by simp) _) (by simp) _)
   ·exact fun a ha => Or.inr ⟨a, ha, rfl⟩
   ·exact bset (bset (bset (bset HB4.out (by simp) _) (by simp) _) (by simp) _) (by simp) _
  ·have SV := Lib.hid (hs.other hlt)
   rw [decide_eq_false hlt] at EQ
   clear hs hL hT hk hn hlt ht
   go_enter Tryz.func63, Tryz.ntmps63
   go_wp2_with fail
   refine (EQ.out _ HB2.out).mono ?_
   rintro q w1 ⟨rfl, b1⟩
   have x0 := keepc b1 (show ((w.alloc (.cells #[.bool true, .bool m, .slice ao n c] 96)).alloc (.cells #[.bool false, .bool false, .slice none 0 0] 96)).cell? ⟨w.heap.size, 0, none⟩ = some (.bool true) by simp [go_sem])
   have f0 := keepf b1 (show ((w.alloc (.cells #[.bool true, .bool m, .slice ao n c] 96)).alloc (.cells #[.bool false, .bool false, .slice none 0 0] 96)).cell? ⟨w.heap.size, 0, none⟩ = some (.bool true) by simp [go_sem]) (show ((w.alloc (.cells #[.bool true, .bool m, .slice ao n c] 96)).alloc (.cells #[.bool false, .bool false, .slice none 0 0] 96)).frozen? ⟨w.heap.size, 0, none⟩ = false by simp [go_sem])
   have x1 := keepc b1 (show ((w.alloc (.cells #[.bool true, .bool m, .slice ao n c] 96)).alloc (.cells #[.bool false, .bool false, .slice none 0 0] 96)).cell? ⟨w.heap.size, 1, none⟩ = some (.bool m) by simp [go_sem])
   have f1 := keepf b1 (show ((w.alloc (.cells #[.bool true, .bool m, .slice ao n c] 96)).alloc (.cells #[.bool false, .bool false, .slice none 0 0] 96)).cell? ⟨w.heap.size, 1, none⟩ = some (.bool m) by simp [go_sem]) (show ((w.alloc (.cells #[.bool true, .bool m, .slice ao n c] 96)).alloc (.cells #[.bool false, .bool false, .slice none 0 0] 96)).frozen? ⟨w.heap.size, 1, none⟩ = false by simp [go_sem])
   have x2 := keepc b1 (show ((w.alloc (.cells #[.bool true, .bool m, .slice ao n c] 96)).alloc (.cells #[.bool false, .bool false, .slice none 0 0] 96)).cell? ⟨w.heap.size, 2, none⟩ = some (.slice ao n c) by simp [go_sem])
   have f2 := keepf b1 (show ((w.alloc (.cells #[.bool true, .bool m, .slice ao n c] 96)).alloc (.cells #[.bool false, .bool false, .slice none 0 0] 96)).cell? ⟨w.heap.size, 2, none⟩ = some (.slice ao n c) by simp [go_sem]) (show ((w.alloc (.cells #[.bool true, .bool m, .slice ao n c] 96)).alloc (.cells #[.bool false, .bool false, .slice none 0 0] 96)).frozen? ⟨w.heap.size, 2, none⟩ = false by simp [go_sem])
   have y0 := keepc b1 (show ((w.alloc (.cells #[.bool true, .bool m, .slice ao n c] 96)).alloc (.cells #[.bool false, .bool false, .slice none 0 0] 96)).cell? ⟨w.heap.size + 1, 0, none⟩ = some (.bool false) by simp [go_sem])
   have g0 := keepf b1 (show ((w.alloc (.cells #[.bool true, .bool m, .slice ao n c] 96)).alloc (.cells #[.bool false, .bool false, .slice none 0 0] 96)).cell? ⟨w.heap.size + 1, 0, none⟩ = some (.bool false) by simp [go_sem]) (show ((w.alloc (.cells #[.bool true, .bool m, .slice ao n c] 96)).alloc (.cells #[.bool false, .bool false, .slice none 0 0] 96)).frozen? ⟨w.heap.size + 1, 0, none⟩ = false by simp [go_sem])
   have y1 := keepc b1 (show ((w.alloc (.cells #[.bool true, .bool m, .slice ao n c] 96)).alloc (.cells #[.bool false, .bool false, .slice none 0 0] 96)).cell? ⟨w.heap.size + 1, 1, none⟩ = some (.bool false) by simp [go_sem])
   have g1 := keepf b1 (show ((w.alloc (.cells #[.bool true, .bool m, .slice ao n c] 96)).alloc (.cells #[.bool false, .bool false, .slice none 0 0] 96)).cell? ⟨w.heap.size + 1, 1, none⟩ = some (.bool false) by simp [go_sem]) (show ((w.alloc (.cells #[.bool true, .bool m, .slice ao n c] 96)).alloc (.cells #[.bool false, .bool false, .slice none 0 0] 96)).frozen? ⟨w.heap.size + 1, 1, none⟩ = false by simp [go_sem])
   have y2 := keepc b1 (show ((w.alloc (.cells #[.bool true, .bool m, .slice ao n c] 96)).alloc (.cells #[.bool false, .bool false, .slice none 0 0] 96)).cell? ⟨w.heap.size + 1, 2, none⟩ = some (.slice none 0 0) by simp [go_sem])
   have g2 := keepf b1 (show ((w.alloc (.cells #[.bool true, .bool m, .slice ao n c] 96)).alloc (.cells #[.bool false, .bool false, .slice none 0 0] 96)).cell? ⟨w.heap.size + 1, 2, none⟩ = some (.slice none 0 0) by simp [go_sem]) (show ((w.alloc (.cells #[.bool true, .bool m, .slice ao n c] 96)).alloc (.cells #[.bool false, .bool false, .slice none 0 0] 96)).frozen? ⟨w.heap.size + 1, 2, none⟩ = false by simp [go_sem])
   have HB4 := Lib.hid (btr HB2.out b1)
   clear b1
   go_wp2_with fail
   refine bodyPost_ret (res_state rfl _ _ _ rfl (.bool true) (.bool true) (.slice ao n c) (by simp [go_sem, y0]) (by simp [go_sem, y1]) (by simp [go_sem, y2])) rfl ?_
   refine ⟨true, true, ao, c, l, by rw [HN.out], SV.out, ?_, ?_, ?_⟩
   ·exact HL.out _ (bset (bset (bset (bset (bset HB4.out (by simp) _) (by simp) _) (by simp) _) (by simp) _) (by simp) _)
   ·exact fun a ha => Or.inr ⟨a, ha, rfl⟩
   ·exact bset (bset (bset (bset (bset HB4.out (by simp) _) (by simp) _) (by simp) _) (by simp) _) (by simp) _
end Go.Proofs.YthanoilbcdhbkaaGreatDoor
