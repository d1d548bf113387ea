/-
  Lists of numbers that the call owns; Result of the program and of the document.
-/
import Derived.Test.YthanoilbcdhbkaaGreatDoorQZC
import Derived.Test.YthanoilbcdhbkaaGreatDoorQD
namespace Go.Proofs.YthanoilbcdhbkaaGreatDoor
open Go Go.RowKit Go.Lib WM TM EM YM

def vals (l : List Int) : List Value := l.map (Value.int .i64)
theorem info3 : (Tryz.prog.info? 3).map (fun i => (i.zero, i.size, i.bytes)) = some (some (.int .i64 0), 1, 8) := by kernel_rfl
theorem own_cells {w : World} {base n : Nat} {e : TypeId} {v : Value} {l : List Value} (h : w.ownsRow base e 1 v n l) :
  l.length = n ∧ ∃ ao cap, v = .slice ao n cap ∧ n ≤ cap ∧ (∀ a, ao = some a → base ≤ a.block) ∧ (ao = none → n = 0 ∧ cap = 0) ∧ ∀ j (hj : j < l.length), ∃ g, ao = some ⟨g, 0, none⟩ ∧ g < w.heap.size ∧ w.cell? ⟨g, 0 + j, none⟩ = some l[j] := by
 obtain ⟨h0, h1⟩ := h
 have hl : l.length = n := by simpa using h0
 refine ⟨hl, ?_⟩
 rcases h1 with ⟨rfl, rfl⟩ | ⟨g, cap, cur, rfl, hb, hg, hnc, _, hcs, htake⟩
 ·exact ⟨none, 0, rfl, Nat.le_refl _, fun a h => (by cases h), fun _ => ⟨rfl, rfl⟩, fun j hj => absurd hj (by omega)⟩
 ·refine ⟨some ⟨g, 0, none⟩, cap, rfl, hnc, fun a h => (by cases h; exact hb), fun h => (by cases h), fun j hj => ⟨g, rfl, (Array.getElem?_eq_some_iff.1 hg).1, ?_⟩⟩
  rw [Nat.zero_add, cell_of_row _ _ j cur _ (0, 0) hg]
  have h2 : (cur.toList.take (n * 1))[j]? = l[j]? := by rw [htake]
  rw [List.getElem?_take, if_pos (by omega)] at h2
  rw [← Array.getElem?_toList, h2, List.getElem?_eq_getElem hj]
theorem own_ints {w : World} {base n : Nat} {v : Value} {l : List Int} (h : w.ownsRow base 3 1 v n (vals l)) :
  l.length = n ∧ ∃ ao cap, v = .slice ao n cap ∧ IntsAt ao l w := by
 obtain ⟨h0, ao, cap, h1, _, _, _, h2⟩ := own_cells h
 refine ⟨by simpa [vals] using h0, ao, cap, h1, fun i hi => ?_⟩
 obtain ⟨g, h3, h4, h5⟩ := h2 i (by simpa [vals] using hi)
 exact ⟨g, 0, h3, h4, by rw [h5]; simp [vals, List.getD, hi]⟩
theorem news1 (w : World) (z : Value) (t : TypeId) : ∀ ad : Addr, some (⟨w.heap.size, 0, none⟩ : Addr) = some ad → ∀ j u, ([z] : List Value)[j]? = some u → (w.alloc (.cells #[z] t)).cell? (ad.add j) = some u := by
 intro ad e j u hj
 cases e
 match j, hj with
 | 0, hj => simp at hj; subst hj; simp [Addr.add]
theorem one1 (z : Value) (h : z.oneCell' = true) : ∀ u ∈ ([z] : List Value), u.oneCell' = true := by intro u hu; simp at hu; subst hu; exact h
theorem wpList_append_one {P : Program} {e : TypeId} {w0 w : World} {ops : Array Oper} {rest : List Oper} {o : Oper} {a : Act} {Q : Exit → Act → World → Prop} (z : Value) (hw : w = w0.alloc (.cells #[z] e)) (hgd : o.guard = none) (s x : Operand) (t : TypeId)
  (ho : o.op = .call { callee := .builtin .append, args := #[s, x], argTypes := #[t, t] })
  (base : Nat) (i : TypeInfo) (d : Value) (bytes : Nat) (ht : P.underlying t = some (.slice e)) (hi : P.info? e = some i) (hz : i.zero = some d)
  (hsize : i.size = 1) (hby : i.bytes = bytes) (hzs : d.cells.size = 1)
  (v : Value) (n : Nat) (xs : List Value) (hs : a.eval s = v) (hown : w0.ownsRow base e 1 v n xs)
  (hx : a.eval x = .slice (some ⟨w0.heap.size, 0, none⟩) 1 1) (h1 : z.oneCell' = true)
  (h63 : n + 1 ≤ maxLen) (hbytes : (n + 1) * bytes ≤ 140737488355328) (hbase : base ≤ w0.heap.size)
  (h : ∀ v' w', w'.ownsRow base e 1 v' (n + 1) (xs ++ [z]) → Below base w0 w' → wpList P ops Q rest (a.put o.dst v') w') : wpList P ops Q (o :: rest) a w := by
 subst hw
 have hb : Below w0.heap.size w0 (w0.alloc (.cells #[z] e)) := bal (bref w0) _
 have ho2 := own_below hown hb
 refine wpList_append_own _ hgd s x t ho base e i d 1 bytes ht hi hz hsize hby hzs (by decide) v n xs hs ho2 ⟨w0.heap.size, 0, none⟩ 1 1 [z] hx rfl (news1 w0 z e _ rfl) (one1 z h1) h63 hbytes (by have := hb.size; omega) fun v' w' h2 h3 _ => ?_
 refine h v' w' h2 ?_
 exact (hb.mono hbase).grown h3 (by have := hb.size; omega) (fun b hb => (ho2.lt b hb).1)
theorem IntsAt.nil (ao : Option Addr) (w : World) : IntsAt ao [] w := fun _ hi => absurd hi (Nat.not_lt_zero _)
def pc (l : List Int) (k j : Nat) : Int := if j < k then l.getD j 0 else 0
theorem pc_next (l : List Int) (k j : Nat) : pc l (k + 1) j = if j = k then l.getD k 0 else pc l k j := by
 unfold pc
 by_cases h : j = k
 ·subst h; rw [if_pos (by omega), if_pos rfl]
 ·rw [if_neg h]
  by_cases h2 : j < k
  ·rw [if_pos (by omega), if_pos h2]
  ·rw [if_neg (by omega), if_neg h2]
theorem pc_pad (l : List Int) (h : l.length ≤ 3) : pad l = (pc l l.length 0, pc l l.length 1, pc l l.length 2) := by
 match l, h with
 | [], _ => rfl
 | [a], _ => rfl
 | [a, b], _ => rfl
 | [a, b, c], _ => rfl
 | _ :: _ :: _ :: _ :: _, h => exact absurd h (by simp)
theorem pad_ok (l : List Int) (h : l.length ≤ 3) (hg : l.all good = true) : k3B (pad l) = true := by
 have key : ∀ a, good a = true → (decide (0 ≤ a) && decide (a ≤ 5)) = true := by
  intro a ha
  rw [good_iff] at ha
  simp only [Bool.and_eq_true, decide_eq_true_eq]
  omega
 match l, h, hg with
 | [], _, _ => rfl
 | [a], _, hg =>
  simp only [List.all_cons, List.all_nil, Bool.and_true] at hg
  unfold pad k3B
  simp only
  rw [key a hg]
  rfl
 | [a, b], _, hg =>
  simp only [List.all_cons, List.all_nil, Bool.and_true, Bool.and_eq_true] at hg
  unfold pad k3B
  simp only
  rw [key a hg.1, key b hg.2]
  rfl
 | [a, b, c], _, hg =>
  simp only [List.all_cons, List.all_nil, Bool.and_true, Bool.and_eq_true] at hg
  unfold pad k3B
  simp only
  rw [key a hg.1, key b hg.2.1, key c hg.2.2]
  rfl
 | _ :: _ :: _ :: _ :: _, h, _ => exact absurd h (by simp)
theorem all_bad (l : List Int) (k : Nat) (h : k < l.length) (hb : good (l.getD k 0) = false) : l.all good = false := by
 cases hc : l.all good with
 | false => rfl
 | true =>
  have := List.all_eq_true.1 hc (l.getD k 0) (by simp [List.getD, h])
  rw [this] at hb
  cases hb
theorem all_next' (l : List Int) (k : Nat) (h : k < l.length) (ha : (l.take k).all good = true) (hb : good (l.getD k 0) = true) : (l.take (k + 1)).all good = true := by
 rw [List.take_succ_eq_append_getElem h, List.all_append, ha]
 simp only [List.getD, List.getElem?_eq_getElem h, Option.getD_some] at hb
 simp [hb]
theorem set_at {W : World} {B k j : Nat} {v x : Value} (hk : W.cell? ⟨B, k, none⟩ = some x) : (W.setCell ⟨B, k, none⟩ v).cell? ⟨B, j, none⟩ = if j = k then some v else W.cell? ⟨B, j, none⟩ := by
 by_cases h : j = k
 ·subst h
  rw [if_pos rfl]
  exact World.cell?_setCell_same' _ _ _ (by rw [hk]; rfl)
 ·rw [if_neg h]
  exact World.cell?_setCell_other _ _ _ _ (fun e => h (by injection e with _ e2 _; exact e2.symm))
set_option maxRecDepth 100000 in
set_option maxHeartbeats 4000000 in
theorem mResult (o : Int) (l : List Int) (ao : Option Addr) (cap : Nat) (w : World) (h : IntsAt ao l w) :
  Calls Tryz.prog 81 #[.int .i64 o, .slice ao l.length cap] w fun r w' => r = .returned (.tuple #[.int .i64 ((resO o l).getD 0), .bool (resO o l).isSome]) ∧ Below w.heap.size w w' := by
 obtain ⟨n, hn⟩ : ∃ n, l.length = n := ⟨_, rfl⟩
 obtain ⟨R, hR⟩ : ∃ R, resO o l = R := ⟨_, rfl⟩
 have HI := Lib.hid h
 have HN := Lib.hid hn
 have HR := Lib.hid hR
 obtain ⟨V, hV⟩ : ∃ V, R.getD 0 = V := ⟨_, rfl⟩
 obtain ⟨S, hS⟩ : ∃ S, R.isSome = S := ⟨_, rfl⟩
 rw [hn, hR, hV, hS]
 have HVS := Lib.hid (And.intro hV hS)
 clear h hR hV hS
 by_cases h3 : 3 < n
 ·have h3z : (3 : Int) < (n : Int) := by omega
  have hr : R = none := by rw [← HR.out]; exact res_long o l (by omega)
  subst hr
  obtain ⟨rfl, rfl⟩ := HVS.out
  clear hn h3
  go_enter Tryz.func81, Tryz.ntmps81
  go_wp2_with fail
  go_ret2
  exact ⟨rfl, by repeat (first | exact bref _ | refine bdr ?_ | refine bal ?_ _)⟩
 have h3z : ¬ (3 : Int) < (n : Int) := by omega
 have hn3 : n ≤ 3 := by omega
 clear hn h3
 have HB0 := Lib.hid (show Below w.heap.size w (w.alloc (.cells #[.int .i64 0, .int .i64 0, .int .i64 0] 130)) from bal (bref w) _)
 go_enter Tryz.func81, Tryz.ntmps81
 go_wp2_with fail
 go_loopw [16] (fun i wr => ∃ (k : Nat), k ≤ n ∧ i = .int .i64 k ∧ (l.take k).all good = true ∧ wr.cell? ⟨w.heap.size, 0, none⟩ = some (.int .i64 (pc l k 0)) ∧ wr.cell? ⟨w.heap.size, 1, none⟩ = some (.int .i64 (pc l k 1)) ∧ wr.cell? ⟨w.heap.size, 2, none⟩ = some (.int .i64 (pc l k 2)) ∧ wr.frozen? ⟨w.heap.size, k, none⟩ = false ∧ (∀ j, wr.frozen? ⟨w.heap.size, j, none⟩ = false) ∧ Below w.heap.size w wr) (fun i _ => n - (RowKit.intOf i).toNat)
 case atStart => exact ⟨0, by omega, rfl, rfl, by simp [go_sem, pc], by simp [go_sem, pc], by simp [go_sem, pc], by simp [go_sem], fun j => by simp [go_sem], by (repeat (first | exact bref _ | refine bdr ?_ | refine bal ?_ _))⟩
 case round =>
  obtain ⟨k, hk, rfl, hq, hc0, hc1, hc2, hfk, hf, hB⟩ := hrel
  have HQ := Lib.hid hq
  have HB := Lib.hid hB
  have HF := Lib.hid hf
  have hsz : w.heap.size < wr.heap.size := World.block_lt_of_cell? wr _ hc0
  clear hq hB hf
  by_cases hlt : k < n
  ·have hkz : (k : Int) < (n : Int) := by omega
   have hk3 : (k : Int) < 3 := by omega
   have hk0 : (0 : Int) ≤ (k : Int) := by omega
   have g1 : k < l.length := by rw [HN.out]; exact hlt
   obtain ⟨b, off, rfl, hb, c0⟩ := (HI.out.keep HB.out) k g1
   have HL := Lib.hid (fun hg => all_next' l k g1 HQ.out hg)
   have HL2 := Lib.hid (fun hg => all_bad l k g1 hg)
   have hp0 := pc_next l k 0
   have hp1 := pc_next l k 1
   have hp2 := pc_next l k 2
   obtain ⟨t, ht⟩ : ∃ t, l.getD k 0 = t := ⟨_, rfl⟩
   rw [ht] at c0 HL HL2 hp0 hp1 hp2
   have C1 := Lib.hid (fun W => mexists t W)
   have HP := Lib.hid (And.intro hp0 (And.intro hp1 hp2))
   obtain ⟨p0, e0⟩ : ∃ p, pc l k 0 = p := ⟨_, rfl⟩
   obtain ⟨p1, e1⟩ : ∃ p, pc l k 1 = p := ⟨_, rfl⟩
   obtain ⟨p2, e2⟩ : ∃ p, pc l k 2 = p := ⟨_, rfl⟩
   rw [e0] at hc0; rw [e1] at hc1; rw [e2] at hc2
   have HE := Lib.hid (And.intro e0 (And.intro e1 e2))
   clear ht hp0 hp1 hp2 e0 e1 e2 g1
   cases hg : good t with
   | false =>
    rw [hg] at C1
    have hr : Hid (R = none) := Lib.hid (by rw [← HR.out]; exact res_bad o l (HL2.out hg))
    clear hg
    go_wp2_with (go_at_call 49; refine (C1.out _).mono ?_; rintro r2 w2 ⟨rfl, hb2⟩)
    go_ret2
    exact ⟨by rw [← HVS.out.1, ← HVS.out.2, hr.out]; rfl, btr HB.out (btr (by repeat (first | exact bref _ | refine bdr ?_ | refine bal ?_ _)) hb2)⟩
   | true =>
    rw [hg] at C1
    have HG := Lib.hid (HL.out hg)
    clear hg
    go_wp2_with fail
    refine (C1.out _).mono ?_
    rintro r2 w2 ⟨rfl, hb2⟩
    have d0 := keepc hb2 hc0
    have d1 := keepc hb2 hc1
    have d2 := keepc hb2 hc2
    have df : w2.frozen? ⟨w.heap.size, k, none⟩ = false := (hb2.frozen (p := ⟨w.heap.size, k, none⟩) hsz).trans hfk
    have hs2 : w.heap.size < w2.heap.size := by have := hb2.size; omega
    have HF2 := Lib.hid (fun j => (hb2.frozen (p := ⟨w.heap.size, j, none⟩) hsz).trans (HF.out j))
    have HB2 := Lib.hid (btr HB.out hb2)
    have hx : ∃ x, w2.cell? ⟨w.heap.size, k, none⟩ = some x := by
     have : k = 0 ∨ k = 1 ∨ k = 2 := by omega
     rcases this with e | e | e <;> (subst e; exact ⟨_, by assumption⟩)
    obtain ⟨x, hx⟩ := hx
    clear hb2
    go_wp2_with fail
    go_roundw
    case rel =>
     refine ⟨k + 1, by omega, by go_num, HG.out, ?_, ?_, ?_, by rw [World.frozen?_setCell]; exact HF2.out _, fun j => by rw [World.frozen?_setCell]; exact HF2.out _, HB2.out.setCell (p := ⟨w.heap.size, k, none⟩) (Nat.le_refl _) _⟩
     ·rw [set_at hx, HP.out.1, HE.out.1]; split <;> first | rfl | assumption
     ·rw [set_at hx, HP.out.2.1, HE.out.2.1]; split <;> first | rfl | assumption
     ·rw [set_at hx, HP.out.2.2, HE.out.2.2]; split <;> first | rfl | assumption
    case measure => simp [RowKit.intOf]; omega
  ·have he : k = n := by omega
   subst he
   have hll : l.take l.length = l := List.take_length
   have HGA : Hid (l.all good = true) := Lib.hid (by have := HQ.out; rw [← HN.out, hll] at this; exact this)
   have HPD : Hid (pad l = (pc l k 0, pc l k 1, pc l k 2)) := Lib.hid (by rw [pc_pad l (by rw [HN.out]; exact hn3), HN.out])
   have HK3 : Hid (k3B (pc l k 0, pc l k 1, pc l k 2) = true) := Lib.hid (by rw [← HPD.out]; exact pad_ok l (by rw [HN.out]; exact hn3) HGA.out)
   have HTA : Hid (tabAt o (pc l k 0, pc l k 1, pc l k 2) = R) := Lib.hid (by rw [← HPD.out, tab_res o l (by rw [HN.out]; exact hn3) HGA.out]; exact HR.out)
   clear hll hn3 hk hlt hfk
   obtain ⟨p0, e0⟩ : ∃ p, pc l k 0 = p := ⟨_, rfl⟩
   obtain ⟨p1, e1⟩ : ∃ p, pc l k 1 = p := ⟨_, rfl⟩
   obtain ⟨p2, e2⟩ : ∃ p, pc l k 2 = p := ⟨_, rfl⟩
   rw [e0, e1, e2] at HK3 HTA
   rw [e0] at hc0; rw [e1] at hc1; rw [e2] at hc2
   clear e0 e1 e2
   go_wp2_with fail
   refine wp_region_held_drew (S := (fun W => Below wr.heap.size wr W)) (by kernel_rfl) (bdr (bref _)) (fun hH0 => ?_)
   refine wpAnyH_take (i := 0) (oi := _) (v := ?_) rfl (by kernel_rfl) (by kernel_rfl) (by kernel_rfl) (fun _ _ _ h => h) (Or.inl ⟨?_, ?_⟩) hH0 ?_
   rotate_left
   ·kernel_rfl
   ·(intro W' _; go_simp; (try with_reducible rfl))
   (try simp only [List.getElem_toArray, List.getElem_cons_zero, Act.put, List.setIfInBounds_toArray, List.set_cons_succ, List.set_cons_zero])
   refine wpAnyH_take (i := 2) (oi := _) (v := ?_) rfl (by kernel_rfl) (by kernel_rfl) (by kernel_rfl) (fun _ _ _ h => h) (Or.inl ⟨?_, ?_⟩) hH0 ?_
   rotate_left
   ·kernel_rfl
   ·(intro W' hSw; have f0 := keepc hSw hc0; have f1 := keepc hSw hc1; have f2 := keepc hSw hc2; go_simp; (try with_reducible rfl))
   (try simp only [List.getElem_toArray, List.getElem_cons_succ, List.getElem_cons_zero, Act.put, List.setIfInBounds_toArray, List.set_cons_succ, List.set_cons_zero])
   refine wpAnyH_ready (rs := [1]) (by kernel_rfl) (by simp) ?_
   refine AllReadyH.cons (o := _) rfl (fun K hK => ?_) AllReadyH.nil
   go_simp
   refine (mresults o _).mono ?_
   rintro r w1 ⟨m, rfl, hT, hb1⟩
   have hrun := tab_look hT (p0, p1, p2) HK3.out
   unfold k3V at hrun
   simp only at hrun
   rw [HTA.out, HVS.out.1, HVS.out.2] at hrun
   refine hK.out _ _ (btr hH0 hb1) (fun hH1 => ?_)
   clear hK K hT
   (try simp only [List.getElem_toArray, List.getElem_cons_succ, List.getElem_cons_zero, Act.put, List.setIfInBounds_toArray, List.set_cons_succ, List.set_cons_zero])
   refine wpAnyH_ready (rs := [3]) (by kernel_rfl) (by simp) ?_
   refine AllReadyH.cons (o := _) rfl (fun K hK => ?_) AllReadyH.nil
   go_simp
   refine hK.out _ _ hH1 (fun hH2 => ?_)
   clear hK K
   (try simp only [List.getElem_toArray, List.getElem_cons_succ, List.getElem_cons_zero, Act.put, List.setIfInBounds_toArray, List.set_cons_succ, List.set_cons_zero])
   refine wpAnyH_take (i := 4) (oi := _) (v := ?_) rfl (by kernel_rfl) (by kernel_rfl) (by kernel_rfl) (fun _ _ _ h => h) (Or.inl ⟨?_, ?_⟩) hH2 ?_
   rotate_left
   ·kernel_rfl
   ·(intro W' _; go_simp; (try with_reducible rfl))
   (try simp only [List.getElem_toArray, List.getElem_cons_succ, List.getElem_cons_zero, Act.put, List.setIfInBounds_toArray, List.set_cons_succ, List.set_cons_zero])
   refine wpAnyH_take (i := 5) (oi := _) (v := ?_) rfl (by kernel_rfl) (by kernel_rfl) (by kernel_rfl) (fun _ _ _ h => h) (Or.inl ⟨?_, ?_⟩) hH2 ?_
   rotate_left
   ·kernel_rfl
   ·(intro W' _; go_simp; (try with_reducible rfl))
   (try simp only [List.getElem_toArray, List.getElem_cons_succ, List.getElem_cons_zero, Act.put, List.setIfInBounds_toArray, List.set_cons_succ, List.set_cons_zero])
   refine wpAnyH_take (i := 6) (oi := _) (v := ?_) rfl (by kernel_rfl) (by kernel_rfl) (by kernel_rfl) (fun _ _ _ h => h) (Or.inl ⟨?_, ?_⟩) hH2 ?_
   rotate_left
   ·kernel_rfl
   ·(intro W' _; go_simp; (try with_reducible rfl))
   (try simp only [List.getElem_toArray, List.getElem_cons_succ, List.getElem_cons_zero, Act.put, List.setIfInBounds_toArray, List.set_cons_succ, List.set_cons_zero])
   refine wpAnyH_take (i := 7) (oi := _) (v := ?_) rfl (by kernel_rfl) (by kernel_rfl) (by kernel_rfl) (fun _ _ _ h => h) (Or.inl ⟨?_, ?_⟩) hH2 ?_
   rotate_left
   ·kernel_rfl
   ·(intro W' _; go_simp; (try with_reducible rfl))
   (try simp only [List.getElem_toArray, List.getElem_cons_succ, List.getElem_cons_zero, Act.put, List.setIfInBounds_toArray, List.set_cons_succ, List.set_cons_zero])
   refine wpAnyH_take (i := 8) (oi := _) (v := ?_) rfl (by kernel_rfl) (by kernel_rfl) (by kernel_rfl) (fun _ _ _ h => h) (Or.inl ⟨?_, ?_⟩) hH2 ?_
   rotate_left
   ·kernel_rfl
   ·(intro W' _; go_simp; (try with_reducible rfl))
   (try simp only [List.getElem_toArray, List.getElem_cons_succ, List.getElem_cons_zero, Act.put, List.setIfInBounds_toArray, List.set_cons_succ, List.set_cons_zero])
   refine wpAnyH_done (by kernel_rfl) ?_ _
   go_wp2_with fail
   go_ret2
   exact ⟨rfl, btr HB.out hH2⟩
end Go.Proofs.YthanoilbcdhbkaaGreatDoor
