/-
  A region that fills a map in whatever order; the contract of the table of an operator.
-/
import Derived.Test.YthanoilbcdhbkaaGreatDoorQZA
import Derived.Deep.RegionHeld
namespace Go.Proofs.YthanoilbcdhbkaaGreatDoor
open Go Go.RowKit Go.Lib WM TM EM YM

def doneL {α : Type} : List α → List Bool → List α
 | x :: l, true :: c => x :: doneL l c
 | _ :: l, false :: c => doneL l c
 | _, _ => []
def markL (base : Array Bool) : List Nat → List Bool → Array Bool
 | i :: J, true :: c => (markL base J c).setIfInBounds i true
 | _ :: J, false :: c => markL base J c
 | _, _ => base
def allB : Nat → List (List Bool)
 | 0 => [[]]
 | n + 1 => (allB n).flatMap fun c => [true :: c, false :: c]
theorem mem_allB : ∀ c : List Bool, c ∈ allB c.length := by
 intro c
 induction c with
 | nil => simp [allB]
 | cons b c ih =>
  rw [List.length_cons, allB, List.mem_flatMap]
  exact ⟨c, ih, by cases b <;> simp⟩
def chkR (md : Region.Mode) (ops : Array Oper) (base : Array Bool) (J : List Nat) : Bool :=
 (allB J.length).all fun c => (c.all id || Region.ready md ops (markL base J c) == doneL J (c.map (!·)))
theorem done_sub {α : Type} : ∀ (l : List α) (c : List Bool) (x : α), x ∈ doneL l c → x ∈ l := by
 intro l
 induction l with
 | nil => intro c x h; cases c <;> cases h
 | cons y l ih =>
  intro c x h
  match c, h with
  | true :: c, h =>
   rcases List.mem_cons.1 h with rfl | h
   ·simp
   ·exact List.mem_cons_of_mem _ (ih c x h)
  | false :: c, h => exact List.mem_cons_of_mem _ (ih c x h)
  | [], h => cases h
theorem done_all {α : Type} : ∀ (l : List α) (c : List Bool), c.length = l.length → c.count false = 0 → doneL l c = l ∧ c = l.map fun _ => true := by
 intro l
 induction l with
 | nil => intro c h _; cases c with
  | nil => exact ⟨rfl, rfl⟩
  | cons b c => simp at h
 | cons y l ih =>
  intro c h h0
  match c, h, h0 with
  | true :: c, h, h0 =>
   have := ih c (by simpa using h) (by simpa using h0)
   exact ⟨by rw [doneL, this.1], by rw [List.map_cons, ← this.2]⟩
  | false :: c, h, h0 => simp at h0
theorem done_set {α : Type} : ∀ (l : List α) (c : List Bool) (k : Nat) (x : α), c.length = l.length → c[k]? = some false → l[k]? = some x → (doneL l (c.set k true)).Perm (x :: doneL l c) := by
 intro l
 induction l with
 | nil => intro c k x _ _ h; simp at h
 | cons y l ih =>
  intro c k x h h0 h1
  cases k with
  | zero =>
   match c, h, h0 with
   | true :: c, h, h0 => simp at h0
   | false :: c, h, h0 =>
    simp at h1
    subst h1
    exact List.Perm.refl _
  | succ k =>
   match c, h, h0 with
   | true :: c, h, h0 =>
    have := ih c k x (by simpa using h) (by simpa using h0) (by simpa using h1)
    rw [List.set_cons_succ, doneL, doneL]
    exact (this.cons y).trans (List.Perm.swap x y _)
   | false :: c, h, h0 =>
    have := ih c k x (by simpa using h) (by simpa using h0) (by simpa using h1)
    rw [List.set_cons_succ, doneL, doneL]
    exact this
theorem done_not : ∀ (l : List (K3 × Int)) (c : List Bool) (k : Nat) (x : K3 × Int), (l.map Prod.fst).Nodup → c[k]? = some false → l[k]? = some x → x.1 ∉ (doneL l c).map Prod.fst := by
 intro l
 induction l with
 | nil => intro c k x _ _ h; simp at h
 | cons y l ih =>
  intro c k x hn h0 h1
  rw [List.map_cons, List.nodup_cons] at hn
  cases k with
  | zero =>
   match c, h0 with
   | true :: c, h0 => simp at h0
   | false :: c, h0 =>
    simp at h1
    subst h1
    intro hm
    obtain ⟨z, hz, e⟩ := List.mem_map.1 hm
    exact hn.1 (e ▸ List.mem_map_of_mem (f := Prod.fst) (done_sub l c z hz))
  | succ k =>
   have hx : x ∈ l := List.mem_of_getElem? (by simpa using h1)
   match c, h0 with
   | true :: c, h0 =>
    rw [doneL, List.map_cons, List.mem_cons]
    rintro (e | hm)
    ·exact hn.1 (e ▸ List.mem_map_of_mem (f := Prod.fst) hx)
    ·exact ih c k x hn.2 (by simpa using h0) (by simpa using h1) hm
   | false :: c, h0 => exact ih c k x hn.2 (by simpa using h0) (by simpa using h1)
theorem mark_set (base : Array Bool) : ∀ (J : List Nat) (c : List Bool) (k i : Nat), J.Nodup → c[k]? = some false → J[k]? = some i → (markL base J c).setIfInBounds i true = markL base J (c.set k true) := by
 intro J
 induction J with
 | nil => intro c k i _ _ h; simp at h
 | cons y J ih =>
  intro c k i hn h0 h1
  rw [List.nodup_cons] at hn
  cases k with
  | zero =>
   match c, h0 with
   | true :: c, h0 => simp at h0
   | false :: c, h0 =>
    simp at h1
    subst h1
    rfl
  | succ k =>
   have hx : i ∈ J := List.mem_of_getElem? (by simpa using h1)
   match c, h0 with
   | true :: c, h0 =>
    have := ih c k i hn.2 (by simpa using h0) (by simpa using h1)
    have hyi : i ≠ y := fun e => hn.1 (e ▸ hx)
    rw [List.set_cons_succ, markL, markL, ← this]
    exact Array.setIfInBounds_comm _ _ (by first | exact hyi | exact hyi.symm)
   | false :: c, h0 =>
    rw [List.set_cons_succ, markL, markL]
    exact ih c k i hn.2 (by simpa using h0) (by simpa using h1)
theorem done_at : ∀ (J : List Nat) (c : List Bool) (i : Nat), i ∈ doneL J (c.map (!·)) → ∃ k : Nat, J[k]? = some i ∧ c[k]? = some false := by
 intro J
 induction J with
 | nil => intro c i h; cases c <;> cases h
 | cons y J ih =>
  intro c i h
  match c, h with
  | true :: c, h =>
   obtain ⟨k, h1, h2⟩ := ih c i h
   exact ⟨k + 1, by simpa using h1, by simpa using h2⟩
  | false :: c, h =>
   rcases List.mem_cons.1 h with rfl | h
   ·exact ⟨0, rfl, rfl⟩
   ·obtain ⟨k, h1, h2⟩ := ih c i h
    exact ⟨k + 1, by simpa using h1, by simpa using h2⟩
theorem done_ne : ∀ (J : List Nat) (c : List Bool), c.length = J.length → c.count false ≠ 0 → doneL J (c.map (!·)) ≠ [] := by
 intro J
 induction J with
 | nil => intro c h h0; cases c with
  | nil => exact absurd rfl h0
  | cons b c => simp at h
 | cons y J ih =>
  intro c h h0
  match c, h, h0 with
  | true :: c, h, h0 => exact ih c (by simpa using h) (by simpa using h0)
  | false :: c, h, h0 => exact List.cons_ne_nil _ _
theorem count_set : ∀ (c : List Bool) (k n : Nat), c[k]? = some false → c.count false = n + 1 → (c.set k true).count false = n := by
 intro c
 induction c with
 | nil => intro k n h; simp at h
 | cons b c ih =>
  intro k n h h1
  cases k with
  | zero =>
   simp at h
   subst h
   simp at h1
   simpa using h1
  | succ k =>
   rw [List.set_cons_succ]
   cases b with
   | true => simp at h1 ⊢; exact ih k n (by simpa using h) h1
   | false =>
    simp at h1 ⊢
    cases n with
    | zero =>
     have : false ∈ c := List.mem_of_getElem? (i := k) (by simpa using h)
     have := List.count_pos_iff.2 this
     omega
    | succ n => rw [ih k n (by simpa using h) h1]
theorem fills {ops : Array Oper} {Q : Exit → Act → World → Prop} {md : Region.Mode} (b b0 : Nat) (hb0 : b0 ≤ b) (w0 : World) (base : Array Bool) (a : Act) (J : List Nat) (ents : List (K3 × Int))
  (hJ : J.length = ents.length) (hnd : J.Nodup) (hke : (ents.map Prod.fst).Nodup) (hkb : ents.all (fun p => k3B p.1) = true)
  (hop : ∀ (k i : Nat) (p : K3 × Int), J[k]? = some i → ents[k]? = some p → ∃ o m x v, ops[i]? = some o ∧ o.guard = none ∧ o.dst = none ∧ o.op = Op.insert 131 m x v ∧ a.eval m = .map (some b) ∧ a.eval x = k3V p.1 ∧ a.eval v = .int .i64 p.2)
  (hchk : chkR md ops base J = true) (fuel : Nat)
  (hend : ∀ w' L, L.Perm ents → MapIs w' b L → Below b0 w0 w' → wpAnyH Tryz.prog md ops Q (fun _ => True) fuel (markL base J (J.map fun _ => true)) a w') :
  ∀ (n : Nat) (c : List Bool), c.length = J.length → c.count false = n → ∀ w L, L.Perm (doneL ents c) → MapIs w b L → Below b0 w0 w → wpAnyH Tryz.prog md ops Q (fun _ => True) (n + fuel) (markL base J c) a w := by
 intro n
 induction n with
 | zero =>
  intro c hc hn w L hL hI hB
  obtain ⟨h1, _⟩ := done_all ents c (hc.trans hJ) hn
  obtain ⟨_, h2⟩ := done_all J c hc hn
  rw [h1] at hL
  rw [h2, Nat.zero_add]
  exact hend w L hL hI hB
 | succ n ih =>
  intro c hc hn w L hL hI hB
  rw [Nat.succ_add]
  have hr : Region.ready md ops (markL base J c) = doneL J (c.map (!·)) := by
   have h1 := List.all_eq_true.1 hchk c (by rw [← hc]; exact mem_allB c)
   rw [Bool.or_eq_true] at h1
   rcases h1 with h1 | h1
   ·exfalso
    have : false ∈ c := List.count_pos_iff.1 (by omega)
    have := List.all_eq_true.1 h1 false this
    cases this
   ·exact eq_of_beq h1
  refine wpAnyH_all hr (done_ne J c hc (by omega)) fun i hi => ?_
  obtain ⟨k, h1, h2⟩ := done_at J c i hi
  have hk : k < ents.length := by rw [← hJ]; exact (List.getElem?_eq_some_iff.1 h1).1
  have h3 : ents[k]? = some ents[k] := List.getElem?_eq_getElem hk
  obtain ⟨o, m, x, v, ho, hg, hd, hop1, hm, hx, hv⟩ := hop k i ents[k] h1 h3
  have hkk : k3B ents[k].1 = true := by simpa using List.all_eq_true.1 hkb ents[k] (List.getElem_mem hk)
  have hnot : ents[k].1 ∉ L.map Prod.fst := fun hm => done_not ents c k _ hke h2 h3 ((hL.map Prod.fst).mem_iff.1 hm)
  obtain ⟨w', hrun, r1, r2⟩ := run_new hI ents[k].1 ents[k].2 hkk hnot
  have hnext := ih (c.set k true) (by rw [List.length_set]; exact hc) (count_set c k n h2 hn) w' (L ++ [(ents[k].1, ents[k].2)])
   ((List.perm_append_singleton _ _).trans ((hL.cons _).trans (done_set ents c k _ (hc.trans hJ) h2 h3).symm)) r1 (hB.trans (r2.mono hb0))
  rw [← mark_set base J c k i hnd h2 h1] at hnext
  unfold wpOp
  simp only [ho]
  rw [if_pos (by unfold Region.wanted; rw [hg])]
  unfold Oper.wp
  refine Or.inl ?_
  simp [execOp, hop1, hm, hx, hv, hrun, Result.andThen, Oper.upon]
  rw [hd]
  exact hnext
def TabIn (w : World) (m : Option Nat) (o : Int) : Prop := (m = none ∧ tabL o = []) ∨ ∃ b L, m = some b ∧ L.Perm (tabL o) ∧ MapIs w b L
theorem find_perm {L M : List (K3 × Int)} (h : L.Perm M) (hd : (L.map Prod.fst).Nodup) (k : K3) : (L.find? fun p => decide (p.1 = k)) = M.find? fun p => decide (p.1 = k) := by
 have one : ∀ (N : List (K3 × Int)), (N.map Prod.fst).Nodup → ∀ p ∈ N, p.1 = k → (N.find? fun p => decide (p.1 = k)) = some p := by
  intro N
  induction N with
  | nil => intro _ p hp; cases hp
  | cons x N ih =>
   intro hd p hp hpk
   rw [List.map_cons, List.nodup_cons] at hd
   rcases List.mem_cons.1 hp with rfl | hp
   ·rw [List.find?_cons, decide_eq_true hpk]
   ·have hx : x.1 ≠ k := by rintro rfl; exact hd.1 (hpk ▸ List.mem_map_of_mem (f := Prod.fst) hp)
    rw [List.find?_cons, decide_eq_false hx]
    exact ih hd.2 p hp hpk
 cases hf : (M.find? fun p => decide (p.1 = k)) with
 | none =>
  rw [List.find?_eq_none] at hf ⊢
  exact fun x hx => hf x (h.mem_iff.1 hx)
 | some p =>
  exact one L hd p (h.mem_iff.2 (List.mem_of_find?_eq_some hf)) (of_decide_eq_true (List.find?_some (p := fun p : K3 × Int => decide (p.1 = k)) hf))
theorem tab_look {w : World} {m : Option Nat} {o : Int} (h : TabIn w m o) (k : K3) (hk : k3B k = true) :
  (Instr.lookup 131 (.map m) (k3V k) true).run Tryz.prog w = .ok (.tuple #[.int .i64 ((tabAt o k).getD 0), .bool (tabAt o k).isSome]) w := by
 rcases h with ⟨rfl, h0⟩ | ⟨b, L, rfl, hL, hI⟩
 ·rw [run_look_nil w k hk]
  unfold tabAt
  rw [h0]
  rfl
 ·rw [run_look hI k hk]
  obtain ⟨_, _, _, _, _, hd⟩ := hI
  unfold tabAt
  rw [find_perm hL hd]
theorem TabIn.keep {w w' : World} {m : Option Nat} {o : Int} (h : TabIn w m o) (hb : Below w.heap.size w w') : TabIn w' m o := by
 rcases h with h | ⟨b, L, h1, h2, h3⟩
 ·exact Or.inl h
 ·exact Or.inr ⟨b, L, h1, h2, h3.keep hb⟩
theorem wpList_map_ins (w : World) {ops : Array Oper} {rest : List Oper} {o : Oper} {a : Act} {Q : Exit → Act → World → Prop}
  (hg : o.guard = none) (m x v : Operand) (hop : o.op = Op.insert 131 m x v) (b : Nat) (L : List (K3 × Int))
  (hm : a.eval m = .map (some b)) (hI : MapIs w b L) (k : K3) (t : Int) (hx : a.eval x = k3V k) (hv : a.eval v = .int .i64 t) (hk : k3B k = true) (hn : decide (k ∉ L.map Prod.fst) = true)
  (hK : ∀ w', MapIs w' b (L ++ [(k, t)]) → Below b w w' → wpList Tryz.prog ops Q rest (a.put o.dst undef) w') :
  wpList Tryz.prog ops Q (o :: rest) a w := by
 refine wpList_plain hg fun K' hK' => ?_
 obtain ⟨w', hrun, r1, r2⟩ := run_new hI k t hk (of_decide_eq_true hn)
 unfold Oper.wp
 simp [execOp, hop, hm, hx, hv, hrun, Result.andThen]
 exact hK' _ _ (hK w' r1 r2)

set_option maxRecDepth 100000 in
set_option maxHeartbeats 4000000 in
theorem mres5 (w : World) : Calls Tryz.prog 99 #[.int .i64 5] w fun r w' => ∃ m, r = .returned (.map m) ∧ TabIn w' m 5 ∧ Below w.heap.size w w' := by
 have hmm := @run_makeMap Tryz.prog
 go_enter Tryz.func99, Tryz.ntmps99
 go_wp2_with fail
 refine wp_region_held_drew (S := (fun _ => True)) (by kernel_rfl) trivial (fun hH0 => ?_)
 refine wpAnyH_take (i := 1) (oi := _) (v := k3V (1, 1, 0)) rfl (by kernel_rfl) (by kernel_rfl) (by kernel_rfl) (fun _ _ _ h => h) (Or.inl ⟨by kernel_rfl, fun _ _ => by kernel_rfl⟩) trivial ?_
 (try simp only [List.getElem_toArray])
 (try simp only [List.getElem_cons_succ])
 (try simp only [List.getElem_cons_zero])
 (try simp only [Act.put])
 (try simp only [List.setIfInBounds_toArray])
 (try simp only [List.set_cons_succ])
 (try simp only [List.set_cons_zero])
 refine wpAnyH_take (i := 3) (oi := _) (v := k3V (2, 2, 0)) rfl (by kernel_rfl) (by kernel_rfl) (by kernel_rfl) (fun _ _ _ h => h) (Or.inl ⟨by kernel_rfl, fun _ _ => by kernel_rfl⟩) trivial ?_
 (try simp only [List.getElem_toArray])
 (try simp only [List.getElem_cons_succ])
 (try simp only [List.getElem_cons_zero])
 (try simp only [Act.put])
 (try simp only [List.setIfInBounds_toArray])
 (try simp only [List.set_cons_succ])
 (try simp only [List.set_cons_zero])
 refine wpAnyH_take (i := 5) (oi := _) (v := k3V (3, 3, 0)) rfl (by kernel_rfl) (by kernel_rfl) (by kernel_rfl) (fun _ _ _ h => h) (Or.inl ⟨by kernel_rfl, fun _ _ => by kernel_rfl⟩) trivial ?_
 (try simp only [List.getElem_toArray])
 (try simp only [List.getElem_cons_succ])
 (try simp only [List.getElem_cons_zero])
 (try simp only [Act.put])
 (try simp only [List.setIfInBounds_toArray])
 (try simp only [List.set_cons_succ])
 (try simp only [List.set_cons_zero])
 refine wpAnyH_take (i := 7) (oi := _) (v := k3V (4, 1, 0)) rfl (by kernel_rfl) (by kernel_rfl) (by kernel_rfl) (fun _ _ _ h => h) (Or.inl ⟨by kernel_rfl, fun _ _ => by kernel_rfl⟩) trivial ?_
 (try simp only [List.getElem_toArray])
 (try simp only [List.getElem_cons_succ])
 (try simp only [List.getElem_cons_zero])
 (try simp only [Act.put])
 (try simp only [List.setIfInBounds_toArray])
 (try simp only [List.set_cons_succ])
 (try simp only [List.set_cons_zero])
 refine wpAnyH_ready (rs := [0]) (by kernel_rfl) (by decide) (AllReadyH.cons (o := _) rfl (fun K' hK => ?_) AllReadyH.nil)
 rw [if_pos (by kernel_rfl)]
 go_simp
 refine hK.out _ _ trivial (fun _ => ?_)
 (try simp only [List.getElem_toArray])
 (try simp only [List.getElem_cons_succ])
 (try simp only [List.getElem_cons_zero])
 (try simp only [Act.put])
 (try simp only [List.setIfInBounds_toArray])
 (try simp only [List.set_cons_succ])
 (try simp only [List.set_cons_zero])
 refine fills w.heap.size w.heap.size (Nat.le_refl _) w #[true, true, false, true, false, true, false, true, false, false, false] _ [2, 4, 6, 8] [((1, 1, 0), 1), ((2, 2, 0), 2), ((3, 3, 0), 3), ((4, 1, 0), 4)] rfl (by decide) (by decide) (by decide) ?_ (by kernel_rfl) 2 ?_ 4 [false, false, false, false] rfl rfl _ [] (List.Perm.refl _) (map_made _) (by repeat (first | exact bref _ | refine bdr ?_ | refine bal ?_ _))
 ·intro k i p h1 h2
  match k, h1, h2 with
  | 0, h1, h2 => obtain rfl := Option.some.inj h1; obtain rfl := Option.some.inj h2; exact ⟨_, _, _, _, rfl, rfl, rfl, rfl, rfl, rfl, rfl⟩
  | 1, h1, h2 => obtain rfl := Option.some.inj h1; obtain rfl := Option.some.inj h2; exact ⟨_, _, _, _, rfl, rfl, rfl, rfl, rfl, rfl, rfl⟩
  | 2, h1, h2 => obtain rfl := Option.some.inj h1; obtain rfl := Option.some.inj h2; exact ⟨_, _, _, _, rfl, rfl, rfl, rfl, rfl, rfl, rfl⟩
  | 3, h1, h2 => obtain rfl := Option.some.inj h1; obtain rfl := Option.some.inj h2; exact ⟨_, _, _, _, rfl, rfl, rfl, rfl, rfl, rfl, rfl⟩
  | _ + 4, h1, _ => cases h1
 ·intro w1 L hL hI hB
  have HB := Lib.hid hB
  have HL := Lib.hid hL
  have HI := Lib.hid hI
  clear hB hL hI
  refine wpAnyH_take (i := 9) (oi := _) (v := .map (some w.heap.size)) rfl (by kernel_rfl) (by kernel_rfl) (by kernel_rfl) (fun _ _ _ h => h) (Or.inl ⟨by kernel_rfl, fun _ _ => by kernel_rfl⟩) trivial ?_
  (try simp only [List.getElem_toArray])
  (try simp only [List.getElem_cons_succ])
  (try simp only [List.getElem_cons_zero])
  (try simp only [Act.put])
  (try simp only [List.setIfInBounds_toArray])
  (try simp only [List.set_cons_succ])
  (try simp only [List.set_cons_zero])
  refine wpAnyH_take (i := 10) (oi := _) (v := .map (some w.heap.size)) rfl (by kernel_rfl) (by kernel_rfl) (by kernel_rfl) (fun _ _ _ h => h) (Or.inl ⟨by kernel_rfl, fun _ _ => by kernel_rfl⟩) trivial ?_
  (try simp only [List.getElem_toArray])
  (try simp only [List.getElem_cons_succ])
  (try simp only [List.getElem_cons_zero])
  (try simp only [Act.put])
  (try simp only [List.setIfInBounds_toArray])
  (try simp only [List.set_cons_succ])
  (try simp only [List.set_cons_zero])
  refine wpAnyH_done (by kernel_rfl) ?_ _
  go_wp2_with fail
  go_ret
  exact ⟨_, rfl, Or.inr ⟨_, _, rfl, HL.out, HI.out⟩, HB.out⟩

set_option maxRecDepth 100000 in
set_option maxHeartbeats 4000000 in
theorem mres6 (w : World) : Calls Tryz.prog 99 #[.int .i64 6] w fun r w' => ∃ m, r = .returned (.map m) ∧ TabIn w' m 6 ∧ Below w.heap.size w w' := by
 have hmm := @run_makeMap Tryz.prog
 go_enter Tryz.func99, Tryz.ntmps99
 go_wp2_with fail
 refine wp_region_held_drew (S := (fun _ => True)) (by kernel_rfl) trivial (fun hH0 => ?_)
 refine wpAnyH_take (i := 1) (oi := _) (v := k3V (1, 1, 0)) rfl (by kernel_rfl) (by kernel_rfl) (by kernel_rfl) (fun _ _ _ h => h) (Or.inl ⟨by kernel_rfl, fun _ _ => by kernel_rfl⟩) trivial ?_
 (try simp only [List.getElem_toArray])
 (try simp only [List.getElem_cons_succ])
 (try simp only [List.getElem_cons_zero])
 (try simp only [Act.put])
 (try simp only [List.setIfInBounds_toArray])
 (try simp only [List.set_cons_succ])
 (try simp only [List.set_cons_zero])
 refine wpAnyH_take (i := 3) (oi := _) (v := k3V (2, 2, 0)) rfl (by kernel_rfl) (by kernel_rfl) (by kernel_rfl) (fun _ _ _ h => h) (Or.inl ⟨by kernel_rfl, fun _ _ => by kernel_rfl⟩) trivial ?_
 (try simp only [List.getElem_toArray])
 (try simp only [List.getElem_cons_succ])
 (try simp only [List.getElem_cons_zero])
 (try simp only [Act.put])
 (try simp only [List.setIfInBounds_toArray])
 (try simp only [List.set_cons_succ])
 (try simp only [List.set_cons_zero])
 refine wpAnyH_take (i := 5) (oi := _) (v := k3V (3, 3, 0)) rfl (by kernel_rfl) (by kernel_rfl) (by kernel_rfl) (fun _ _ _ h => h) (Or.inl ⟨by kernel_rfl, fun _ _ => by kernel_rfl⟩) trivial ?_
 (try simp only [List.getElem_toArray])
 (try simp only [List.getElem_cons_succ])
 (try simp only [List.getElem_cons_zero])
 (try simp only [Act.put])
 (try simp only [List.setIfInBounds_toArray])
 (try simp only [List.set_cons_succ])
 (try simp only [List.set_cons_zero])
 refine wpAnyH_take (i := 7) (oi := _) (v := k3V (4, 1, 0)) rfl (by kernel_rfl) (by kernel_rfl) (by kernel_rfl) (fun _ _ _ h => h) (Or.inl ⟨by kernel_rfl, fun _ _ => by kernel_rfl⟩) trivial ?_
 (try simp only [List.getElem_toArray])
 (try simp only [List.getElem_cons_succ])
 (try simp only [List.getElem_cons_zero])
 (try simp only [Act.put])
 (try simp only [List.setIfInBounds_toArray])
 (try simp only [List.set_cons_succ])
 (try simp only [List.set_cons_zero])
 refine wpAnyH_take (i := 9) (oi := _) (v := k3V (4, 4, 0)) rfl (by kernel_rfl) (by kernel_rfl) (by kernel_rfl) (fun _ _ _ h => h) (Or.inl ⟨by kernel_rfl, fun _ _ => by kernel_rfl⟩) trivial ?_
 (try simp only [List.getElem_toArray])
 (try simp only [List.getElem_cons_succ])
 (try simp only [List.getElem_cons_zero])
 (try simp only [Act.put])
 (try simp only [List.setIfInBounds_toArray])
 (try simp only [List.set_cons_succ])
 (try simp only [List.set_cons_zero])
 refine wpAnyH_ready (rs := [0]) (by kernel_rfl) (by decide) (AllReadyH.cons (o := _) rfl (fun K' hK => ?_) AllReadyH.nil)
 rw [if_pos (by kernel_rfl)]
 go_simp
 refine hK.out _ _ trivial (fun _ => ?_)
 (try simp only [List.getElem_toArray])
 (try simp only [List.getElem_cons_succ])
 (try simp only [List.getElem_cons_zero])
 (try simp only [Act.put])
 (try simp only [List.setIfInBounds_toArray])
 (try simp only [List.set_cons_succ])
 (try simp only [List.set_cons_zero])
 refine fills w.heap.size w.heap.size (Nat.le_refl _) w #[true, true, false, true, false, true, false, true, false, true, false, false, false] _ [2, 4, 6, 8, 10] [((1, 1, 0), 1), ((2, 2, 0), 2), ((3, 3, 0), 3), ((4, 1, 0), 4), ((4, 4, 0), 1)] rfl (by decide) (by decide) (by decide) ?_ (by kernel_rfl) 2 ?_ 5 [false, false, false, false, false] rfl rfl _ [] (List.Perm.refl _) (map_made _) (by repeat (first | exact bref _ | refine bdr ?_ | refine bal ?_ _))
 ·intro k i p h1 h2
  match k, h1, h2 with
  | 0, h1, h2 => obtain rfl := Option.some.inj h1; obtain rfl := Option.some.inj h2; exact ⟨_, _, _, _, rfl, rfl, rfl, rfl, rfl, rfl, rfl⟩
  | 1, h1, h2 => obtain rfl := Option.some.inj h1; obtain rfl := Option.some.inj h2; exact ⟨_, _, _, _, rfl, rfl, rfl, rfl, rfl, rfl, rfl⟩
  | 2, h1, h2 => obtain rfl := Option.some.inj h1; obtain rfl := Option.some.inj h2; exact ⟨_, _, _, _, rfl, rfl, rfl, rfl, rfl, rfl, rfl⟩
  | 3, h1, h2 => obtain rfl := Option.some.inj h1; obtain rfl := Option.some.inj h2; exact ⟨_, _, _, _, rfl, rfl, rfl, rfl, rfl, rfl, rfl⟩
  | 4, h1, h2 => obtain rfl := Option.some.inj h1; obtain rfl := Option.some.inj h2; exact ⟨_, _, _, _, rfl, rfl, rfl, rfl, rfl, rfl, rfl⟩
  | _ + 5, h1, _ => cases h1
 ·intro w1 L hL hI hB
  have HB := Lib.hid hB
  have HL := Lib.hid hL
  have HI := Lib.hid hI
  clear hB hL hI
  refine wpAnyH_take (i := 11) (oi := _) (v := .map (some w.heap.size)) rfl (by kernel_rfl) (by kernel_rfl) (by kernel_rfl) (fun _ _ _ h => h) (Or.inl ⟨by kernel_rfl, fun _ _ => by kernel_rfl⟩) trivial ?_
  (try simp only [List.getElem_toArray])
  (try simp only [List.getElem_cons_succ])
  (try simp only [List.getElem_cons_zero])
  (try simp only [Act.put])
  (try simp only [List.setIfInBounds_toArray])
  (try simp only [List.set_cons_succ])
  (try simp only [List.set_cons_zero])
  refine wpAnyH_take (i := 12) (oi := _) (v := .map (some w.heap.size)) rfl (by kernel_rfl) (by kernel_rfl) (by kernel_rfl) (fun _ _ _ h => h) (Or.inl ⟨by kernel_rfl, fun _ _ => by kernel_rfl⟩) trivial ?_
  (try simp only [List.getElem_toArray])
  (try simp only [List.getElem_cons_succ])
  (try simp only [List.getElem_cons_zero])
  (try simp only [Act.put])
  (try simp only [List.setIfInBounds_toArray])
  (try simp only [List.set_cons_succ])
  (try simp only [List.set_cons_zero])
  refine wpAnyH_done (by kernel_rfl) ?_ _
  go_wp2_with fail
  go_ret
  exact ⟨_, rfl, Or.inr ⟨_, _, rfl, HL.out, HI.out⟩, HB.out⟩

set_option maxRecDepth 100000 in
set_option maxHeartbeats 4000000 in
theorem mres7 (w : World) : Calls Tryz.prog 99 #[.int .i64 7] w fun r w' => ∃ m, r = .returned (.map m) ∧ TabIn w' m 7 ∧ Below w.heap.size w w' := by
 have hmm := @run_makeMap Tryz.prog
 go_enter Tryz.func99, Tryz.ntmps99
 go_wp2_with fail
 refine wp_region_held_drew (S := (fun _ => True)) (by kernel_rfl) trivial (fun hH0 => ?_)
 refine wpAnyH_take (i := 1) (oi := _) (v := k3V (1, 1, 0)) rfl (by kernel_rfl) (by kernel_rfl) (by kernel_rfl) (fun _ _ _ h => h) (Or.inl ⟨by kernel_rfl, fun _ _ => by kernel_rfl⟩) trivial ?_
 (try simp only [List.getElem_toArray])
 (try simp only [List.getElem_cons_succ])
 (try simp only [List.getElem_cons_zero])
 (try simp only [Act.put])
 (try simp only [List.setIfInBounds_toArray])
 (try simp only [List.set_cons_succ])
 (try simp only [List.set_cons_zero])
 refine wpAnyH_take (i := 3) (oi := _) (v := k3V (1, 2, 0)) rfl (by kernel_rfl) (by kernel_rfl) (by kernel_rfl) (fun _ _ _ h => h) (Or.inl ⟨by kernel_rfl, fun _ _ => by kernel_rfl⟩) trivial ?_
 (try simp only [List.getElem_toArray])
 (try simp only [List.getElem_cons_succ])
 (try simp only [List.getElem_cons_zero])
 (try simp only [Act.put])
 (try simp only [List.setIfInBounds_toArray])
 (try simp only [List.set_cons_succ])
 (try simp only [List.set_cons_zero])
 refine wpAnyH_take (i := 5) (oi := _) (v := k3V (2, 1, 0)) rfl (by kernel_rfl) (by kernel_rfl) (by kernel_rfl) (fun _ _ _ h => h) (Or.inl ⟨by kernel_rfl, fun _ _ => by kernel_rfl⟩) trivial ?_
 (try simp only [List.getElem_toArray])
 (try simp only [List.getElem_cons_succ])
 (try simp only [List.getElem_cons_zero])
 (try simp only [Act.put])
 (try simp only [List.setIfInBounds_toArray])
 (try simp only [List.set_cons_succ])
 (try simp only [List.set_cons_zero])
 refine wpAnyH_take (i := 7) (oi := _) (v := k3V (1, 3, 0)) rfl (by kernel_rfl) (by kernel_rfl) (by kernel_rfl) (fun _ _ _ h => h) (Or.inl ⟨by kernel_rfl, fun _ _ => by kernel_rfl⟩) trivial ?_
 (try simp only [List.getElem_toArray])
 (try simp only [List.getElem_cons_succ])
 (try simp only [List.getElem_cons_zero])
 (try simp only [Act.put])
 (try simp only [List.setIfInBounds_toArray])
 (try simp only [List.set_cons_succ])
 (try simp only [List.set_cons_zero])
 refine wpAnyH_take (i := 9) (oi := _) (v := k3V (3, 1, 0)) rfl (by kernel_rfl) (by kernel_rfl) (by kernel_rfl) (fun _ _ _ h => h) (Or.inl ⟨by kernel_rfl, fun _ _ => by kernel_rfl⟩) trivial ?_
 (try simp only [List.getElem_toArray])
 (try simp only [List.getElem_cons_succ])
 (try simp only [List.getElem_cons_zero])
 (try simp only [Act.put])
 (try simp only [List.setIfInBounds_toArray])
 (try simp only [List.set_cons_succ])
 (try simp only [List.set_cons_zero])
 refine wpAnyH_take (i := 11) (oi := _) (v := k3V (2, 3, 0)) rfl (by kernel_rfl) (by kernel_rfl) (by kernel_rfl) (fun _ _ _ h => h) (Or.inl ⟨by kernel_rfl, fun _ _ => by kernel_rfl⟩) trivial ?_
 (try simp only [List.getElem_toArray])
 (try simp only [List.getElem_cons_succ])
 (try simp only [List.getElem_cons_zero])
 (try simp only [Act.put])
 (try simp only [List.setIfInBounds_toArray])
 (try simp only [List.set_cons_succ])
 (try simp only [List.set_cons_zero])
 refine wpAnyH_take (i := 13) (oi := _) (v := k3V (3, 2, 0)) rfl (by kernel_rfl) (by kernel_rfl) (by kernel_rfl) (fun _ _ _ h => h) (Or.inl ⟨by kernel_rfl, fun _ _ => by kernel_rfl⟩) trivial ?_
 (try simp only [List.getElem_toArray])
 (try simp only [List.getElem_cons_succ])
 (try simp only [List.getElem_cons_zero])
 (try simp only [Act.put])
 (try simp only [List.setIfInBounds_toArray])
 (try simp only [List.set_cons_succ])
 (try simp only [List.set_cons_zero])
 refine wpAnyH_ready (rs := [0]) (by kernel_rfl) (by decide) (AllReadyH.cons (o := _) rfl (fun K' hK => ?_) AllReadyH.nil)
 rw [if_pos (by kernel_rfl)]
 go_simp
 refine hK.out _ _ trivial (fun _ => ?_)
 (try simp only [List.getElem_toArray])
 (try simp only [List.getElem_cons_succ])
 (try simp only [List.getElem_cons_zero])
 (try simp only [Act.put])
 (try simp only [List.setIfInBounds_toArray])
 (try simp only [List.set_cons_succ])
 (try simp only [List.set_cons_zero])
 refine fills w.heap.size w.heap.size (Nat.le_refl _) w #[true, true, false, true, false, true, false, true, false, true, false, true, false, true, false, false, false] _ [2, 4, 6, 8, 10, 12, 14] [((1, 1, 0), 1), ((1, 2, 0), 2), ((2, 1, 0), 2), ((1, 3, 0), 3), ((3, 1, 0), 3), ((2, 3, 0), 2), ((3, 2, 0), 2)] rfl (by decide) (by decide) (by decide) ?_ (by kernel_rfl) 2 ?_ 7 [false, false, false, false, false, false, false] rfl rfl _ [] (List.Perm.refl _) (map_made _) (by repeat (first | exact bref _ | refine bdr ?_ | refine bal ?_ _))
 ·intro k i p h1 h2
  match k, h1, h2 with
  | 0, h1, h2 => obtain rfl := Option.some.inj h1; obtain rfl := Option.some.inj h2; exact ⟨_, _, _, _, rfl, rfl, rfl, rfl, rfl, rfl, rfl⟩
  | 1, h1, h2 => obtain rfl := Option.some.inj h1; obtain rfl := Option.some.inj h2; exact ⟨_, _, _, _, rfl, rfl, rfl, rfl, rfl, rfl, rfl⟩
  | 2, h1, h2 => obtain rfl := Option.some.inj h1; obtain rfl := Option.some.inj h2; exact ⟨_, _, _, _, rfl, rfl, rfl, rfl, rfl, rfl, rfl⟩
  | 3, h1, h2 => obtain rfl := Option.some.inj h1; obtain rfl := Option.some.inj h2; exact ⟨_, _, _, _, rfl, rfl, rfl, rfl, rfl, rfl, rfl⟩
  | 4, h1, h2 => obtain rfl := Option.some.inj h1; obtain rfl := Option.some.inj h2; exact ⟨_, _, _, _, rfl, rfl, rfl, rfl, rfl, rfl, rfl⟩
  | 5, h1, h2 => obtain rfl := Option.some.inj h1; obtain rfl := Option.some.inj h2; exact ⟨_, _, _, _, rfl, rfl, rfl, rfl, rfl, rfl, rfl⟩
  | 6, h1, h2 => obtain rfl := Option.some.inj h1; obtain rfl := Option.some.inj h2; exact ⟨_, _, _, _, rfl, rfl, rfl, rfl, rfl, rfl, rfl⟩
  | _ + 7, h1, _ => cases h1
 ·intro w1 L hL hI hB
  have HB := Lib.hid hB
  have HL := Lib.hid hL
  have HI := Lib.hid hI
  clear hB hL hI
  refine wpAnyH_take (i := 15) (oi := _) (v := .map (some w.heap.size)) rfl (by kernel_rfl) (by kernel_rfl) (by kernel_rfl) (fun _ _ _ h => h) (Or.inl ⟨by kernel_rfl, fun _ _ => by kernel_rfl⟩) trivial ?_
  (try simp only [List.getElem_toArray])
  (try simp only [List.getElem_cons_succ])
  (try simp only [List.getElem_cons_zero])
  (try simp only [Act.put])
  (try simp only [List.setIfInBounds_toArray])
  (try simp only [List.set_cons_succ])
  (try simp only [List.set_cons_zero])
  refine wpAnyH_take (i := 16) (oi := _) (v := .map (some w.heap.size)) rfl (by kernel_rfl) (by kernel_rfl) (by kernel_rfl) (fun _ _ _ h => h) (Or.inl ⟨by kernel_rfl, fun _ _ => by kernel_rfl⟩) trivial ?_
  (try simp only [List.getElem_toArray])
  (try simp only [List.getElem_cons_succ])
  (try simp only [List.getElem_cons_zero])
  (try simp only [Act.put])
  (try simp only [List.setIfInBounds_toArray])
  (try simp only [List.set_cons_succ])
  (try simp only [List.set_cons_zero])
  refine wpAnyH_done (by kernel_rfl) ?_ _
  go_wp2_with fail
  go_ret
  exact ⟨_, rfl, Or.inr ⟨_, _, rfl, HL.out, HI.out⟩, HB.out⟩

set_option maxRecDepth 100000 in
set_option maxHeartbeats 4000000 in
theorem mres8 (w : World) : Calls Tryz.prog 99 #[.int .i64 8] w fun r w' => ∃ m, r = .returned (.map m) ∧ TabIn w' m 8 ∧ Below w.heap.size w w' := by
 have hmm := @run_makeMap Tryz.prog
 go_enter Tryz.func99, Tryz.ntmps99
 go_wp2_with fail
 refine wp_region_held_drew (S := (fun _ => True)) (by kernel_rfl) trivial (fun hH0 => ?_)
 refine wpAnyH_take (i := 1) (oi := _) (v := k3V (1, 1, 0)) rfl (by kernel_rfl) (by kernel_rfl) (by kernel_rfl) (fun _ _ _ h => h) (Or.inl ⟨by kernel_rfl, fun _ _ => by kernel_rfl⟩) trivial ?_
 (try simp only [List.getElem_toArray])
 (try simp only [List.getElem_cons_succ])
 (try simp only [List.getElem_cons_zero])
 (try simp only [Act.put])
 (try simp only [List.setIfInBounds_toArray])
 (try simp only [List.set_cons_succ])
 (try simp only [List.set_cons_zero])
 refine wpAnyH_take (i := 3) (oi := _) (v := k3V (2, 1, 0)) rfl (by kernel_rfl) (by kernel_rfl) (by kernel_rfl) (fun _ _ _ h => h) (Or.inl ⟨by kernel_rfl, fun _ _ => by kernel_rfl⟩) trivial ?_
 (try simp only [List.getElem_toArray])
 (try simp only [List.getElem_cons_succ])
 (try simp only [List.getElem_cons_zero])
 (try simp only [Act.put])
 (try simp only [List.setIfInBounds_toArray])
 (try simp only [List.set_cons_succ])
 (try simp only [List.set_cons_zero])
 refine wpAnyH_take (i := 5) (oi := _) (v := k3V (3, 1, 0)) rfl (by kernel_rfl) (by kernel_rfl) (by kernel_rfl) (fun _ _ _ h => h) (Or.inl ⟨by kernel_rfl, fun _ _ => by kernel_rfl⟩) trivial ?_
 (try simp only [List.getElem_toArray])
 (try simp only [List.getElem_cons_succ])
 (try simp only [List.getElem_cons_zero])
 (try simp only [Act.put])
 (try simp only [List.setIfInBounds_toArray])
 (try simp only [List.set_cons_succ])
 (try simp only [List.set_cons_zero])
 refine wpAnyH_take (i := 7) (oi := _) (v := k3V (2, 2, 0)) rfl (by kernel_rfl) (by kernel_rfl) (by kernel_rfl) (fun _ _ _ h => h) (Or.inl ⟨by kernel_rfl, fun _ _ => by kernel_rfl⟩) trivial ?_
 (try simp only [List.getElem_toArray])
 (try simp only [List.getElem_cons_succ])
 (try simp only [List.getElem_cons_zero])
 (try simp only [Act.put])
 (try simp only [List.setIfInBounds_toArray])
 (try simp only [List.set_cons_succ])
 (try simp only [List.set_cons_zero])
 refine wpAnyH_ready (rs := [0]) (by kernel_rfl) (by decide) (AllReadyH.cons (o := _) rfl (fun K' hK => ?_) AllReadyH.nil)
 rw [if_pos (by kernel_rfl)]
 go_simp
 refine hK.out _ _ trivial (fun _ => ?_)
 (try simp only [List.getElem_toArray])
 (try simp only [List.getElem_cons_succ])
 (try simp only [List.getElem_cons_zero])
 (try simp only [Act.put])
 (try simp only [List.setIfInBounds_toArray])
 (try simp only [List.set_cons_succ])
 (try simp only [List.set_cons_zero])
 refine fills w.heap.size w.heap.size (Nat.le_refl _) w #[true, true, false, true, false, true, false, true, false, false, false] _ [2, 4, 6, 8] [((1, 1, 0), 1), ((2, 1, 0), 2), ((3, 1, 0), 3), ((2, 2, 0), 1)] rfl (by decide) (by decide) (by decide) ?_ (by kernel_rfl) 2 ?_ 4 [false, false, false, false] rfl rfl _ [] (List.Perm.refl _) (map_made _) (by repeat (first | exact bref _ | refine bdr ?_ | refine bal ?_ _))
 ·intro k i p h1 h2
  match k, h1, h2 with
  | 0, h1, h2 => obtain rfl := Option.some.inj h1; obtain rfl := Option.some.inj h2; exact ⟨_, _, _, _, rfl, rfl, rfl, rfl, rfl, rfl, rfl⟩
  | 1, h1, h2 => obtain rfl := Option.some.inj h1; obtain rfl := Option.some.inj h2; exact ⟨_, _, _, _, rfl, rfl, rfl, rfl, rfl, rfl, rfl⟩
  | 2, h1, h2 => obtain rfl := Option.some.inj h1; obtain rfl := Option.some.inj h2; exact ⟨_, _, _, _, rfl, rfl, rfl, rfl, rfl, rfl, rfl⟩
  | 3, h1, h2 => obtain rfl := Option.some.inj h1; obtain rfl := Option.some.inj h2; exact ⟨_, _, _, _, rfl, rfl, rfl, rfl, rfl, rfl, rfl⟩
  | _ + 4, h1, _ => cases h1
 ·intro w1 L hL hI hB
  have HB := Lib.hid hB
  have HL := Lib.hid hL
  have HI := Lib.hid hI
  clear hB hL hI
  refine wpAnyH_take (i := 9) (oi := _) (v := .map (some w.heap.size)) rfl (by kernel_rfl) (by kernel_rfl) (by kernel_rfl) (fun _ _ _ h => h) (Or.inl ⟨by kernel_rfl, fun _ _ => by kernel_rfl⟩) trivial ?_
  (try simp only [List.getElem_toArray])
  (try simp only [List.getElem_cons_succ])
  (try simp only [List.getElem_cons_zero])
  (try simp only [Act.put])
  (try simp only [List.setIfInBounds_toArray])
  (try simp only [List.set_cons_succ])
  (try simp only [List.set_cons_zero])
  refine wpAnyH_take (i := 10) (oi := _) (v := .map (some w.heap.size)) rfl (by kernel_rfl) (by kernel_rfl) (by kernel_rfl) (fun _ _ _ h => h) (Or.inl ⟨by kernel_rfl, fun _ _ => by kernel_rfl⟩) trivial ?_
  (try simp only [List.getElem_toArray])
  (try simp only [List.getElem_cons_succ])
  (try simp only [List.getElem_cons_zero])
  (try simp only [Act.put])
  (try simp only [List.setIfInBounds_toArray])
  (try simp only [List.set_cons_succ])
  (try simp only [List.set_cons_zero])
  refine wpAnyH_done (by kernel_rfl) ?_ _
  go_wp2_with fail
  go_ret
  exact ⟨_, rfl, Or.inr ⟨_, _, rfl, HL.out, HI.out⟩, HB.out⟩

set_option maxRecDepth 100000 in
set_option maxHeartbeats 4000000 in
theorem mres9 (w : World) : Calls Tryz.prog 99 #[.int .i64 9] w fun r w' => ∃ m, r = .returned (.map m) ∧ TabIn w' m 9 ∧ Below w.heap.size w w' := by
 have hmm := @run_makeMap Tryz.prog
 go_enter Tryz.func99, Tryz.ntmps99
 go_wp2_with fail
 refine wp_region_held_drew (S := (fun _ => True)) (by kernel_rfl) trivial (fun hH0 => ?_)
 refine wpAnyH_take (i := 1) (oi := _) (v := k3V (1, 0, 0)) rfl (by kernel_rfl) (by kernel_rfl) (by kernel_rfl) (fun _ _ _ h => h) (Or.inl ⟨by kernel_rfl, fun _ _ => by kernel_rfl⟩) trivial ?_
 (try simp only [List.getElem_toArray])
 (try simp only [List.getElem_cons_succ])
 (try simp only [List.getElem_cons_zero])
 (try simp only [Act.put])
 (try simp only [List.setIfInBounds_toArray])
 (try simp only [List.set_cons_succ])
 (try simp only [List.set_cons_zero])
 refine wpAnyH_take (i := 3) (oi := _) (v := k3V (2, 0, 0)) rfl (by kernel_rfl) (by kernel_rfl) (by kernel_rfl) (fun _ _ _ h => h) (Or.inl ⟨by kernel_rfl, fun _ _ => by kernel_rfl⟩) trivial ?_
 (try simp only [List.getElem_toArray])
 (try simp only [List.getElem_cons_succ])
 (try simp only [List.getElem_cons_zero])
 (try simp only [Act.put])
 (try simp only [List.setIfInBounds_toArray])
 (try simp only [List.set_cons_succ])
 (try simp only [List.set_cons_zero])
 refine wpAnyH_take (i := 5) (oi := _) (v := k3V (3, 0, 0)) rfl (by kernel_rfl) (by kernel_rfl) (by kernel_rfl) (fun _ _ _ h => h) (Or.inl ⟨by kernel_rfl, fun _ _ => by kernel_rfl⟩) trivial ?_
 (try simp only [List.getElem_toArray])
 (try simp only [List.getElem_cons_succ])
 (try simp only [List.getElem_cons_zero])
 (try simp only [Act.put])
 (try simp only [List.setIfInBounds_toArray])
 (try simp only [List.set_cons_succ])
 (try simp only [List.set_cons_zero])
 refine wpAnyH_ready (rs := [0]) (by kernel_rfl) (by decide) (AllReadyH.cons (o := _) rfl (fun K' hK => ?_) AllReadyH.nil)
 rw [if_pos (by kernel_rfl)]
 go_simp
 refine hK.out _ _ trivial (fun _ => ?_)
 (try simp only [List.getElem_toArray])
 (try simp only [List.getElem_cons_succ])
 (try simp only [List.getElem_cons_zero])
 (try simp only [Act.put])
 (try simp only [List.setIfInBounds_toArray])
 (try simp only [List.set_cons_succ])
 (try simp only [List.set_cons_zero])
 refine fills w.heap.size w.heap.size (Nat.le_refl _) w #[true, true, false, true, false, true, false, false, false] _ [2, 4, 6] [((1, 0, 0), 1), ((2, 0, 0), 2), ((3, 0, 0), 3)] rfl (by decide) (by decide) (by decide) ?_ (by kernel_rfl) 2 ?_ 3 [false, false, false] rfl rfl _ [] (List.Perm.refl _) (map_made _) (by repeat (first | exact bref _ | refine bdr ?_ | refine bal ?_ _))
 ·intro k i p h1 h2
  match k, h1, h2 with
  | 0, h1, h2 => obtain rfl := Option.some.inj h1; obtain rfl := Option.some.inj h2; exact ⟨_, _, _, _, rfl, rfl, rfl, rfl, rfl, rfl, rfl⟩
  | 1, h1, h2 => obtain rfl := Option.some.inj h1; obtain rfl := Option.some.inj h2; exact ⟨_, _, _, _, rfl, rfl, rfl, rfl, rfl, rfl, rfl⟩
  | 2, h1, h2 => obtain rfl := Option.some.inj h1; obtain rfl := Option.some.inj h2; exact ⟨_, _, _, _, rfl, rfl, rfl, rfl, rfl, rfl, rfl⟩
  | _ + 3, h1, _ => cases h1
 ·intro w1 L hL hI hB
  have HB := Lib.hid hB
  have HL := Lib.hid hL
  have HI := Lib.hid hI
  clear hB hL hI
  refine wpAnyH_take (i := 7) (oi := _) (v := .map (some w.heap.size)) rfl (by kernel_rfl) (by kernel_rfl) (by kernel_rfl) (fun _ _ _ h => h) (Or.inl ⟨by kernel_rfl, fun _ _ => by kernel_rfl⟩) trivial ?_
  (try simp only [List.getElem_toArray])
  (try simp only [List.getElem_cons_succ])
  (try simp only [List.getElem_cons_zero])
  (try simp only [Act.put])
  (try simp only [List.setIfInBounds_toArray])
  (try simp only [List.set_cons_succ])
  (try simp only [List.set_cons_zero])
  refine wpAnyH_take (i := 8) (oi := _) (v := .map (some w.heap.size)) rfl (by kernel_rfl) (by kernel_rfl) (by kernel_rfl) (fun _ _ _ h => h) (Or.inl ⟨by kernel_rfl, fun _ _ => by kernel_rfl⟩) trivial ?_
  (try simp only [List.getElem_toArray])
  (try simp only [List.getElem_cons_succ])
  (try simp only [List.getElem_cons_zero])
  (try simp only [Act.put])
  (try simp only [List.setIfInBounds_toArray])
  (try simp only [List.set_cons_succ])
  (try simp only [List.set_cons_zero])
  refine wpAnyH_done (by kernel_rfl) ?_ _
  go_wp2_with fail
  go_ret
  exact ⟨_, rfl, Or.inr ⟨_, _, rfl, HL.out, HI.out⟩, HB.out⟩

set_option maxRecDepth 100000 in
set_option maxHeartbeats 4000000 in
theorem mres10 (w : World) : Calls Tryz.prog 99 #[.int .i64 10] w fun r w' => ∃ m, r = .returned (.map m) ∧ TabIn w' m 10 ∧ Below w.heap.size w w' := by
 have hmm := @run_makeMap Tryz.prog
 go_enter Tryz.func99, Tryz.ntmps99
 go_wp2_with fail
 refine wp_region_held_drew (S := (fun _ => True)) (by kernel_rfl) trivial (fun hH0 => ?_)
 refine wpAnyH_take (i := 1) (oi := _) (v := k3V (1, 1, 0)) rfl (by kernel_rfl) (by kernel_rfl) (by kernel_rfl) (fun _ _ _ h => h) (Or.inl ⟨by kernel_rfl, fun _ _ => by kernel_rfl⟩) trivial ?_
 (try simp only [List.getElem_toArray])
 (try simp only [List.getElem_cons_succ])
 (try simp only [List.getElem_cons_zero])
 (try simp only [Act.put])
 (try simp only [List.setIfInBounds_toArray])
 (try simp only [List.set_cons_succ])
 (try simp only [List.set_cons_zero])
 refine wpAnyH_take (i := 3) (oi := _) (v := k3V (2, 2, 0)) rfl (by kernel_rfl) (by kernel_rfl) (by kernel_rfl) (fun _ _ _ h => h) (Or.inl ⟨by kernel_rfl, fun _ _ => by kernel_rfl⟩) trivial ?_
 (try simp only [List.getElem_toArray])
 (try simp only [List.getElem_cons_succ])
 (try simp only [List.getElem_cons_zero])
 (try simp only [Act.put])
 (try simp only [List.setIfInBounds_toArray])
 (try simp only [List.set_cons_succ])
 (try simp only [List.set_cons_zero])
 refine wpAnyH_take (i := 5) (oi := _) (v := k3V (3, 3, 0)) rfl (by kernel_rfl) (by kernel_rfl) (by kernel_rfl) (fun _ _ _ h => h) (Or.inl ⟨by kernel_rfl, fun _ _ => by kernel_rfl⟩) trivial ?_
 (try simp only [List.getElem_toArray])
 (try simp only [List.getElem_cons_succ])
 (try simp only [List.getElem_cons_zero])
 (try simp only [Act.put])
 (try simp only [List.setIfInBounds_toArray])
 (try simp only [List.set_cons_succ])
 (try simp only [List.set_cons_zero])
 refine wpAnyH_take (i := 7) (oi := _) (v := k3V (4, 4, 0)) rfl (by kernel_rfl) (by kernel_rfl) (by kernel_rfl) (fun _ _ _ h => h) (Or.inl ⟨by kernel_rfl, fun _ _ => by kernel_rfl⟩) trivial ?_
 (try simp only [List.getElem_toArray])
 (try simp only [List.getElem_cons_succ])
 (try simp only [List.getElem_cons_zero])
 (try simp only [Act.put])
 (try simp only [List.setIfInBounds_toArray])
 (try simp only [List.set_cons_succ])
 (try simp only [List.set_cons_zero])
 refine wpAnyH_take (i := 9) (oi := _) (v := k3V (5, 5, 0)) rfl (by kernel_rfl) (by kernel_rfl) (by kernel_rfl) (fun _ _ _ h => h) (Or.inl ⟨by kernel_rfl, fun _ _ => by kernel_rfl⟩) trivial ?_
 (try simp only [List.getElem_toArray])
 (try simp only [List.getElem_cons_succ])
 (try simp only [List.getElem_cons_zero])
 (try simp only [Act.put])
 (try simp only [List.setIfInBounds_toArray])
 (try simp only [List.set_cons_succ])
 (try simp only [List.set_cons_zero])
 refine wpAnyH_ready (rs := [0]) (by kernel_rfl) (by decide) (AllReadyH.cons (o := _) rfl (fun K' hK => ?_) AllReadyH.nil)
 rw [if_pos (by kernel_rfl)]
 go_simp
 refine hK.out _ _ trivial (fun _ => ?_)
 (try simp only [List.getElem_toArray])
 (try simp only [List.getElem_cons_succ])
 (try simp only [List.getElem_cons_zero])
 (try simp only [Act.put])
 (try simp only [List.setIfInBounds_toArray])
 (try simp only [List.set_cons_succ])
 (try simp only [List.set_cons_zero])
 refine fills w.heap.size w.heap.size (Nat.le_refl _) w #[true, true, false, true, false, true, false, true, false, true, false, false, false] _ [2, 4, 6, 8, 10] [((1, 1, 0), 5), ((2, 2, 0), 5), ((3, 3, 0), 5), ((4, 4, 0), 5), ((5, 5, 0), 5)] rfl (by decide) (by decide) (by decide) ?_ (by kernel_rfl) 2 ?_ 5 [false, false, false, false, false] rfl rfl _ [] (List.Perm.refl _) (map_made _) (by repeat (first | exact bref _ | refine bdr ?_ | refine bal ?_ _))
 ·intro k i p h1 h2
  match k, h1, h2 with
  | 0, h1, h2 => obtain rfl := Option.some.inj h1; obtain rfl := Option.some.inj h2; exact ⟨_, _, _, _, rfl, rfl, rfl, rfl, rfl, rfl, rfl⟩
  | 1, h1, h2 => obtain rfl := Option.some.inj h1; obtain rfl := Option.some.inj h2; exact ⟨_, _, _, _, rfl, rfl, rfl, rfl, rfl, rfl, rfl⟩
  | 2, h1, h2 => obtain rfl := Option.some.inj h1; obtain rfl := Option.some.inj h2; exact ⟨_, _, _, _, rfl, rfl, rfl, rfl, rfl, rfl, rfl⟩
  | 3, h1, h2 => obtain rfl := Option.some.inj h1; obtain rfl := Option.some.inj h2; exact ⟨_, _, _, _, rfl, rfl, rfl, rfl, rfl, rfl, rfl⟩
  | 4, h1, h2 => obtain rfl := Option.some.inj h1; obtain rfl := Option.some.inj h2; exact ⟨_, _, _, _, rfl, rfl, rfl, rfl, rfl, rfl, rfl⟩
  | _ + 5, h1, _ => cases h1
 ·intro w1 L hL hI hB
  have HB := Lib.hid hB
  have HL := Lib.hid hL
  have HI := Lib.hid hI
  clear hB hL hI
  refine wpAnyH_take (i := 11) (oi := _) (v := .map (some w.heap.size)) rfl (by kernel_rfl) (by kernel_rfl) (by kernel_rfl) (fun _ _ _ h => h) (Or.inl ⟨by kernel_rfl, fun _ _ => by kernel_rfl⟩) trivial ?_
  (try simp only [List.getElem_toArray])
  (try simp only [List.getElem_cons_succ])
  (try simp only [List.getElem_cons_zero])
  (try simp only [Act.put])
  (try simp only [List.setIfInBounds_toArray])
  (try simp only [List.set_cons_succ])
  (try simp only [List.set_cons_zero])
  refine wpAnyH_take (i := 12) (oi := _) (v := .map (some w.heap.size)) rfl (by kernel_rfl) (by kernel_rfl) (by kernel_rfl) (fun _ _ _ h => h) (Or.inl ⟨by kernel_rfl, fun _ _ => by kernel_rfl⟩) trivial ?_
  (try simp only [List.getElem_toArray])
  (try simp only [List.getElem_cons_succ])
  (try simp only [List.getElem_cons_zero])
  (try simp only [Act.put])
  (try simp only [List.setIfInBounds_toArray])
  (try simp only [List.set_cons_succ])
  (try simp only [List.set_cons_zero])
  refine wpAnyH_done (by kernel_rfl) ?_ _
  go_wp2_with fail
  go_ret
  exact ⟨_, rfl, Or.inr ⟨_, _, rfl, HL.out, HI.out⟩, HB.out⟩

set_option maxRecDepth 100000 in
set_option maxHeartbeats 4000000 in
theorem mres11 (w : World) : Calls Tryz.prog 99 #[.int .i64 11] w fun r w' => ∃ m, r = .returned (.map m) ∧ TabIn w' m 11 ∧ Below w.heap.size w w' := by
 have hmm := @run_makeMap Tryz.prog
 go_enter Tryz.func99, Tryz.ntmps99
 go_wp2_with fail
 refine wp_region_held_drew (S := (fun _ => True)) (by kernel_rfl) trivial (fun hH0 => ?_)
 refine wpAnyH_take (i := 1) (oi := _) (v := k3V (1, 1, 0)) rfl (by kernel_rfl) (by kernel_rfl) (by kernel_rfl) (fun _ _ _ h => h) (Or.inl ⟨by kernel_rfl, fun _ _ => by kernel_rfl⟩) trivial ?_
 (try simp only [List.getElem_toArray])
 (try simp only [List.getElem_cons_succ])
 (try simp only [List.getElem_cons_zero])
 (try simp only [Act.put])
 (try simp only [List.setIfInBounds_toArray])
 (try simp only [List.set_cons_succ])
 (try simp only [List.set_cons_zero])
 refine wpAnyH_take (i := 3) (oi := _) (v := k3V (2, 2, 0)) rfl (by kernel_rfl) (by kernel_rfl) (by kernel_rfl) (fun _ _ _ h => h) (Or.inl ⟨by kernel_rfl, fun _ _ => by kernel_rfl⟩) trivial ?_
 (try simp only [List.getElem_toArray])
 (try simp only [List.getElem_cons_succ])
 (try simp only [List.getElem_cons_zero])
 (try simp only [Act.put])
 (try simp only [List.setIfInBounds_toArray])
 (try simp only [List.set_cons_succ])
 (try simp only [List.set_cons_zero])
 refine wpAnyH_take (i := 5) (oi := _) (v := k3V (3, 3, 0)) rfl (by kernel_rfl) (by kernel_rfl) (by kernel_rfl) (fun _ _ _ h => h) (Or.inl ⟨by kernel_rfl, fun _ _ => by kernel_rfl⟩) trivial ?_
 (try simp only [List.getElem_toArray])
 (try simp only [List.getElem_cons_succ])
 (try simp only [List.getElem_cons_zero])
 (try simp only [Act.put])
 (try simp only [List.setIfInBounds_toArray])
 (try simp only [List.set_cons_succ])
 (try simp only [List.set_cons_zero])
 refine wpAnyH_take (i := 7) (oi := _) (v := k3V (4, 4, 0)) rfl (by kernel_rfl) (by kernel_rfl) (by kernel_rfl) (fun _ _ _ h => h) (Or.inl ⟨by kernel_rfl, fun _ _ => by kernel_rfl⟩) trivial ?_
 (try simp only [List.getElem_toArray])
 (try simp only [List.getElem_cons_succ])
 (try simp only [List.getElem_cons_zero])
 (try simp only [Act.put])
 (try simp only [List.setIfInBounds_toArray])
 (try simp only [List.set_cons_succ])
 (try simp only [List.set_cons_zero])
 refine wpAnyH_take (i := 9) (oi := _) (v := k3V (5, 5, 0)) rfl (by kernel_rfl) (by kernel_rfl) (by kernel_rfl) (fun _ _ _ h => h) (Or.inl ⟨by kernel_rfl, fun _ _ => by kernel_rfl⟩) trivial ?_
 (try simp only [List.getElem_toArray])
 (try simp only [List.getElem_cons_succ])
 (try simp only [List.getElem_cons_zero])
 (try simp only [Act.put])
 (try simp only [List.setIfInBounds_toArray])
 (try simp only [List.set_cons_succ])
 (try simp only [List.set_cons_zero])
 refine wpAnyH_ready (rs := [0]) (by kernel_rfl) (by decide) (AllReadyH.cons (o := _) rfl (fun K' hK => ?_) AllReadyH.nil)
 rw [if_pos (by kernel_rfl)]
 go_simp
 refine hK.out _ _ trivial (fun _ => ?_)
 (try simp only [List.getElem_toArray])
 (try simp only [List.getElem_cons_succ])
 (try simp only [List.getElem_cons_zero])
 (try simp only [Act.put])
 (try simp only [List.setIfInBounds_toArray])
 (try simp only [List.set_cons_succ])
 (try simp only [List.set_cons_zero])
 refine fills w.heap.size w.heap.size (Nat.le_refl _) w #[true, true, false, true, false, true, false, true, false, true, false, false, false] _ [2, 4, 6, 8, 10] [((1, 1, 0), 5), ((2, 2, 0), 5), ((3, 3, 0), 5), ((4, 4, 0), 5), ((5, 5, 0), 5)] rfl (by decide) (by decide) (by decide) ?_ (by kernel_rfl) 2 ?_ 5 [false, false, false, false, false] rfl rfl _ [] (List.Perm.refl _) (map_made _) (by repeat (first | exact bref _ | refine bdr ?_ | refine bal ?_ _))
 ·intro k i p h1 h2
  match k, h1, h2 with
  | 0, h1, h2 => obtain rfl := Option.some.inj h1; obtain rfl := Option.some.inj h2; exact ⟨_, _, _, _, rfl, rfl, rfl, rfl, rfl, rfl, rfl⟩
  | 1, h1, h2 => obtain rfl := Option.some.inj h1; obtain rfl := Option.some.inj h2; exact ⟨_, _, _, _, rfl, rfl, rfl, rfl, rfl, rfl, rfl⟩
  | 2, h1, h2 => obtain rfl := Option.some.inj h1; obtain rfl := Option.some.inj h2; exact ⟨_, _, _, _, rfl, rfl, rfl, rfl, rfl, rfl, rfl⟩
  | 3, h1, h2 => obtain rfl := Option.some.inj h1; obtain rfl := Option.some.inj h2; exact ⟨_, _, _, _, rfl, rfl, rfl, rfl, rfl, rfl, rfl⟩
  | 4, h1, h2 => obtain rfl := Option.some.inj h1; obtain rfl := Option.some.inj h2; exact ⟨_, _, _, _, rfl, rfl, rfl, rfl, rfl, rfl, rfl⟩
  | _ + 5, h1, _ => cases h1
 ·intro w1 L hL hI hB
  have HB := Lib.hid hB
  have HL := Lib.hid hL
  have HI := Lib.hid hI
  clear hB hL hI
  refine wpAnyH_take (i := 11) (oi := _) (v := .map (some w.heap.size)) rfl (by kernel_rfl) (by kernel_rfl) (by kernel_rfl) (fun _ _ _ h => h) (Or.inl ⟨by kernel_rfl, fun _ _ => by kernel_rfl⟩) trivial ?_
  (try simp only [List.getElem_toArray])
  (try simp only [List.getElem_cons_succ])
  (try simp only [List.getElem_cons_zero])
  (try simp only [Act.put])
  (try simp only [List.setIfInBounds_toArray])
  (try simp only [List.set_cons_succ])
  (try simp only [List.set_cons_zero])
  refine wpAnyH_take (i := 12) (oi := _) (v := .map (some w.heap.size)) rfl (by kernel_rfl) (by kernel_rfl) (by kernel_rfl) (fun _ _ _ h => h) (Or.inl ⟨by kernel_rfl, fun _ _ => by kernel_rfl⟩) trivial ?_
  (try simp only [List.getElem_toArray])
  (try simp only [List.getElem_cons_succ])
  (try simp only [List.getElem_cons_zero])
  (try simp only [Act.put])
  (try simp only [List.setIfInBounds_toArray])
  (try simp only [List.set_cons_succ])
  (try simp only [List.set_cons_zero])
  refine wpAnyH_done (by kernel_rfl) ?_ _
  go_wp2_with fail
  go_ret
  exact ⟨_, rfl, Or.inr ⟨_, _, rfl, HL.out, HI.out⟩, HB.out⟩

set_option maxRecDepth 100000 in
set_option maxHeartbeats 4000000 in
theorem mres12 (w : World) : Calls Tryz.prog 99 #[.int .i64 12] w fun r w' => ∃ m, r = .returned (.map m) ∧ TabIn w' m 12 ∧ Below w.heap.size w w' := by
 have hmm := @run_makeMap Tryz.prog
 go_enter Tryz.func99, Tryz.ntmps99
 go_wp2_with fail
 refine wp_region_held_drew (S := (fun _ => True)) (by kernel_rfl) trivial (fun hH0 => ?_)
 refine wpAnyH_take (i := 1) (oi := _) (v := k3V (1, 1, 0)) rfl (by kernel_rfl) (by kernel_rfl) (by kernel_rfl) (fun _ _ _ h => h) (Or.inl ⟨by kernel_rfl, fun _ _ => by kernel_rfl⟩) trivial ?_
 (try simp only [List.getElem_toArray])
 (try simp only [List.getElem_cons_succ])
 (try simp only [List.getElem_cons_zero])
 (try simp only [Act.put])
 (try simp only [List.setIfInBounds_toArray])
 (try simp only [List.set_cons_succ])
 (try simp only [List.set_cons_zero])
 refine wpAnyH_take (i := 3) (oi := _) (v := k3V (2, 2, 0)) rfl (by kernel_rfl) (by kernel_rfl) (by kernel_rfl) (fun _ _ _ h => h) (Or.inl ⟨by kernel_rfl, fun _ _ => by kernel_rfl⟩) trivial ?_
 (try simp only [List.getElem_toArray])
 (try simp only [List.getElem_cons_succ])
 (try simp only [List.getElem_cons_zero])
 (try simp only [Act.put])
 (try simp only [List.setIfInBounds_toArray])
 (try simp only [List.set_cons_succ])
 (try simp only [List.set_cons_zero])
 refine wpAnyH_take (i := 5) (oi := _) (v := k3V (3, 3, 0)) rfl (by kernel_rfl) (by kernel_rfl) (by kernel_rfl) (fun _ _ _ h => h) (Or.inl ⟨by kernel_rfl, fun _ _ => by kernel_rfl⟩) trivial ?_
 (try simp only [List.getElem_toArray])
 (try simp only [List.getElem_cons_succ])
 (try simp only [List.getElem_cons_zero])
 (try simp only [Act.put])
 (try simp only [List.setIfInBounds_toArray])
 (try simp only [List.set_cons_succ])
 (try simp only [List.set_cons_zero])
 refine wpAnyH_take (i := 7) (oi := _) (v := k3V (4, 4, 0)) rfl (by kernel_rfl) (by kernel_rfl) (by kernel_rfl) (fun _ _ _ h => h) (Or.inl ⟨by kernel_rfl, fun _ _ => by kernel_rfl⟩) trivial ?_
 (try simp only [List.getElem_toArray])
 (try simp only [List.getElem_cons_succ])
 (try simp only [List.getElem_cons_zero])
 (try simp only [Act.put])
 (try simp only [List.setIfInBounds_toArray])
 (try simp only [List.set_cons_succ])
 (try simp only [List.set_cons_zero])
 refine wpAnyH_ready (rs := [0]) (by kernel_rfl) (by decide) (AllReadyH.cons (o := _) rfl (fun K' hK => ?_) AllReadyH.nil)
 rw [if_pos (by kernel_rfl)]
 go_simp
 refine hK.out _ _ trivial (fun _ => ?_)
 (try simp only [List.getElem_toArray])
 (try simp only [List.getElem_cons_succ])
 (try simp only [List.getElem_cons_zero])
 (try simp only [Act.put])
 (try simp only [List.setIfInBounds_toArray])
 (try simp only [List.set_cons_succ])
 (try simp only [List.set_cons_zero])
 refine fills w.heap.size w.heap.size (Nat.le_refl _) w #[true, true, false, true, false, true, false, true, false, false, false] _ [2, 4, 6, 8] [((1, 1, 0), 5), ((2, 2, 0), 5), ((3, 3, 0), 5), ((4, 4, 0), 5)] rfl (by decide) (by decide) (by decide) ?_ (by kernel_rfl) 2 ?_ 4 [false, false, false, false] rfl rfl _ [] (List.Perm.refl _) (map_made _) (by repeat (first | exact bref _ | refine bdr ?_ | refine bal ?_ _))
 ·intro k i p h1 h2
  match k, h1, h2 with
  | 0, h1, h2 => obtain rfl := Option.some.inj h1; obtain rfl := Option.some.inj h2; exact ⟨_, _, _, _, rfl, rfl, rfl, rfl, rfl, rfl, rfl⟩
  | 1, h1, h2 => obtain rfl := Option.some.inj h1; obtain rfl := Option.some.inj h2; exact ⟨_, _, _, _, rfl, rfl, rfl, rfl, rfl, rfl, rfl⟩
  | 2, h1, h2 => obtain rfl := Option.some.inj h1; obtain rfl := Option.some.inj h2; exact ⟨_, _, _, _, rfl, rfl, rfl, rfl, rfl, rfl, rfl⟩
  | 3, h1, h2 => obtain rfl := Option.some.inj h1; obtain rfl := Option.some.inj h2; exact ⟨_, _, _, _, rfl, rfl, rfl, rfl, rfl, rfl, rfl⟩
  | _ + 4, h1, _ => cases h1
 ·intro w1 L hL hI hB
  have HB := Lib.hid hB
  have HL := Lib.hid hL
  have HI := Lib.hid hI
  clear hB hL hI
  refine wpAnyH_take (i := 9) (oi := _) (v := .map (some w.heap.size)) rfl (by kernel_rfl) (by kernel_rfl) (by kernel_rfl) (fun _ _ _ h => h) (Or.inl ⟨by kernel_rfl, fun _ _ => by kernel_rfl⟩) trivial ?_
  (try simp only [List.getElem_toArray])
  (try simp only [List.getElem_cons_succ])
  (try simp only [List.getElem_cons_zero])
  (try simp only [Act.put])
  (try simp only [List.setIfInBounds_toArray])
  (try simp only [List.set_cons_succ])
  (try simp only [List.set_cons_zero])
  refine wpAnyH_take (i := 10) (oi := _) (v := .map (some w.heap.size)) rfl (by kernel_rfl) (by kernel_rfl) (by kernel_rfl) (fun _ _ _ h => h) (Or.inl ⟨by kernel_rfl, fun _ _ => by kernel_rfl⟩) trivial ?_
  (try simp only [List.getElem_toArray])
  (try simp only [List.getElem_cons_succ])
  (try simp only [List.getElem_cons_zero])
  (try simp only [Act.put])
  (try simp only [List.setIfInBounds_toArray])
  (try simp only [List.set_cons_succ])
  (try simp only [List.set_cons_zero])
  refine wpAnyH_done (by kernel_rfl) ?_ _
  go_wp2_with fail
  go_ret
  exact ⟨_, rfl, Or.inr ⟨_, _, rfl, HL.out, HI.out⟩, HB.out⟩

set_option maxRecDepth 100000 in
set_option maxHeartbeats 4000000 in
theorem mres13 (w : World) : Calls Tryz.prog 99 #[.int .i64 13] w fun r w' => ∃ m, r = .returned (.map m) ∧ TabIn w' m 13 ∧ Below w.heap.size w w' := by
 have hmm := @run_makeMap Tryz.prog
 go_enter Tryz.func99, Tryz.ntmps99
 go_wp2_with fail
 refine wp_region_held_drew (S := (fun _ => True)) (by kernel_rfl) trivial (fun hH0 => ?_)
 refine wpAnyH_take (i := 1) (oi := _) (v := k3V (1, 1, 0)) rfl (by kernel_rfl) (by kernel_rfl) (by kernel_rfl) (fun _ _ _ h => h) (Or.inl ⟨by kernel_rfl, fun _ _ => by kernel_rfl⟩) trivial ?_
 (try simp only [List.getElem_toArray])
 (try simp only [List.getElem_cons_succ])
 (try simp only [List.getElem_cons_zero])
 (try simp only [Act.put])
 (try simp only [List.setIfInBounds_toArray])
 (try simp only [List.set_cons_succ])
 (try simp only [List.set_cons_zero])
 refine wpAnyH_take (i := 3) (oi := _) (v := k3V (2, 2, 0)) rfl (by kernel_rfl) (by kernel_rfl) (by kernel_rfl) (fun _ _ _ h => h) (Or.inl ⟨by kernel_rfl, fun _ _ => by kernel_rfl⟩) trivial ?_
 (try simp only [List.getElem_toArray])
 (try simp only [List.getElem_cons_succ])
 (try simp only [List.getElem_cons_zero])
 (try simp only [Act.put])
 (try simp only [List.setIfInBounds_toArray])
 (try simp only [List.set_cons_succ])
 (try simp only [List.set_cons_zero])
 refine wpAnyH_take (i := 5) (oi := _) (v := k3V (3, 3, 0)) rfl (by kernel_rfl) (by kernel_rfl) (by kernel_rfl) (fun _ _ _ h => h) (Or.inl ⟨by kernel_rfl, fun _ _ => by kernel_rfl⟩) trivial ?_
 (try simp only [List.getElem_toArray])
 (try simp only [List.getElem_cons_succ])
 (try simp only [List.getElem_cons_zero])
 (try simp only [Act.put])
 (try simp only [List.setIfInBounds_toArray])
 (try simp only [List.set_cons_succ])
 (try simp only [List.set_cons_zero])
 refine wpAnyH_take (i := 7) (oi := _) (v := k3V (4, 4, 0)) rfl (by kernel_rfl) (by kernel_rfl) (by kernel_rfl) (fun _ _ _ h => h) (Or.inl ⟨by kernel_rfl, fun _ _ => by kernel_rfl⟩) trivial ?_
 (try simp only [List.getElem_toArray])
 (try simp only [List.getElem_cons_succ])
 (try simp only [List.getElem_cons_zero])
 (try simp only [Act.put])
 (try simp only [List.setIfInBounds_toArray])
 (try simp only [List.set_cons_succ])
 (try simp only [List.set_cons_zero])
 refine wpAnyH_ready (rs := [0]) (by kernel_rfl) (by decide) (AllReadyH.cons (o := _) rfl (fun K' hK => ?_) AllReadyH.nil)
 rw [if_pos (by kernel_rfl)]
 go_simp
 refine hK.out _ _ trivial (fun _ => ?_)
 (try simp only [List.getElem_toArray])
 (try simp only [List.getElem_cons_succ])
 (try simp only [List.getElem_cons_zero])
 (try simp only [Act.put])
 (try simp only [List.setIfInBounds_toArray])
 (try simp only [List.set_cons_succ])
 (try simp only [List.set_cons_zero])
 refine fills w.heap.size w.heap.size (Nat.le_refl _) w #[true, true, false, true, false, true, false, true, false, false, false] _ [2, 4, 6, 8] [((1, 1, 0), 5), ((2, 2, 0), 5), ((3, 3, 0), 5), ((4, 4, 0), 5)] rfl (by decide) (by decide) (by decide) ?_ (by kernel_rfl) 2 ?_ 4 [false, false, false, false] rfl rfl _ [] (List.Perm.refl _) (map_made _) (by repeat (first | exact bref _ | refine bdr ?_ | refine bal ?_ _))
 ·intro k i p h1 h2
  match k, h1, h2 with
  | 0, h1, h2 => obtain rfl := Option.some.inj h1; obtain rfl := Option.some.inj h2; exact ⟨_, _, _, _, rfl, rfl, rfl, rfl, rfl, rfl, rfl⟩
  | 1, h1, h2 => obtain rfl := Option.some.inj h1; obtain rfl := Option.some.inj h2; exact ⟨_, _, _, _, rfl, rfl, rfl, rfl, rfl, rfl, rfl⟩
  | 2, h1, h2 => obtain rfl := Option.some.inj h1; obtain rfl := Option.some.inj h2; exact ⟨_, _, _, _, rfl, rfl, rfl, rfl, rfl, rfl, rfl⟩
  | 3, h1, h2 => obtain rfl := Option.some.inj h1; obtain rfl := Option.some.inj h2; exact ⟨_, _, _, _, rfl, rfl, rfl, rfl, rfl, rfl, rfl⟩
  | _ + 4, h1, _ => cases h1
 ·intro w1 L hL hI hB
  have HB := Lib.hid hB
  have HL := Lib.hid hL
  have HI := Lib.hid hI
  clear hB hL hI
  refine wpAnyH_take (i := 9) (oi := _) (v := .map (some w.heap.size)) rfl (by kernel_rfl) (by kernel_rfl) (by kernel_rfl) (fun _ _ _ h => h) (Or.inl ⟨by kernel_rfl, fun _ _ => by kernel_rfl⟩) trivial ?_
  (try simp only [List.getElem_toArray])
  (try simp only [List.getElem_cons_succ])
  (try simp only [List.getElem_cons_zero])
  (try simp only [Act.put])
  (try simp only [List.setIfInBounds_toArray])
  (try simp only [List.set_cons_succ])
  (try simp only [List.set_cons_zero])
  refine wpAnyH_take (i := 10) (oi := _) (v := .map (some w.heap.size)) rfl (by kernel_rfl) (by kernel_rfl) (by kernel_rfl) (fun _ _ _ h => h) (Or.inl ⟨by kernel_rfl, fun _ _ => by kernel_rfl⟩) trivial ?_
  (try simp only [List.getElem_toArray])
  (try simp only [List.getElem_cons_succ])
  (try simp only [List.getElem_cons_zero])
  (try simp only [Act.put])
  (try simp only [List.setIfInBounds_toArray])
  (try simp only [List.set_cons_succ])
  (try simp only [List.set_cons_zero])
  refine wpAnyH_done (by kernel_rfl) ?_ _
  go_wp2_with fail
  go_ret
  exact ⟨_, rfl, Or.inr ⟨_, _, rfl, HL.out, HI.out⟩, HB.out⟩

set_option maxRecDepth 100000 in
set_option maxHeartbeats 4000000 in
theorem mres14 (w : World) : Calls Tryz.prog 99 #[.int .i64 14] w fun r w' => ∃ m, r = .returned (.map m) ∧ TabIn w' m 14 ∧ Below w.heap.size w w' := by
 have hmm := @run_makeMap Tryz.prog
 go_enter Tryz.func99, Tryz.ntmps99
 have HM := Lib.hid (map_made w)
 go_wp2_with (first | (refine wpList_map_ins _ rfl _ _ _ rfl w.heap.size [] rfl HM.out (5, 5, 0) 5 rfl rfl (by decide) (by decide) ?_; intro w1 hI hb) | go_in)
 have hB := Lib.hid (show Below w.heap.size w w1 from (bal (bref w) _).trans (hb))
 go_ret
 exact ⟨_, rfl, Or.inr ⟨_, _, rfl, List.Perm.refl _, hI⟩, hB.out⟩

set_option maxRecDepth 100000 in
set_option maxHeartbeats 4000000 in
theorem mres15 (w : World) : Calls Tryz.prog 99 #[.int .i64 15] w fun r w' => ∃ m, r = .returned (.map m) ∧ TabIn w' m 15 ∧ Below w.heap.size w w' := by
 have hmm := @run_makeMap Tryz.prog
 go_enter Tryz.func99, Tryz.ntmps99
 have HM := Lib.hid (map_made w)
 go_wp2_with (first | (refine wpList_map_ins _ rfl _ _ _ rfl w.heap.size [] rfl HM.out (5, 5, 0) 5 rfl rfl (by decide) (by decide) ?_; intro w1 hI hb) | go_in)
 have hB := Lib.hid (show Below w.heap.size w w1 from (bal (bref w) _).trans (hb))
 go_ret
 exact ⟨_, rfl, Or.inr ⟨_, _, rfl, List.Perm.refl _, hI⟩, hB.out⟩

set_option maxRecDepth 100000 in
set_option maxHeartbeats 4000000 in
theorem mres16 (w : World) : Calls Tryz.prog 99 #[.int .i64 16] w fun r w' => ∃ m, r = .returned (.map m) ∧ TabIn w' m 16 ∧ Below w.heap.size w w' := by
 have hmm := @run_makeMap Tryz.prog
 go_enter Tryz.func99, Tryz.ntmps99
 have HM := Lib.hid (map_made w)
 go_wp2_with (first | (refine wpList_map_ins _ rfl _ _ _ rfl w.heap.size [] rfl HM.out (5, 0, 0) 5 rfl rfl (by decide) (by decide) ?_; intro w1 hI hb) | go_in)
 have hB := Lib.hid (show Below w.heap.size w w1 from (bal (bref w) _).trans (hb))
 go_ret
 exact ⟨_, rfl, Or.inr ⟨_, _, rfl, List.Perm.refl _, hI⟩, hB.out⟩

set_option maxRecDepth 100000 in
set_option maxHeartbeats 4000000 in
theorem mres17 (w : World) : Calls Tryz.prog 99 #[.int .i64 17] w fun r w' => ∃ m, r = .returned (.map m) ∧ TabIn w' m 17 ∧ Below w.heap.size w w' := by
 have hmm := @run_makeMap Tryz.prog
 go_enter Tryz.func99, Tryz.ntmps99
 go_wp2_with fail
 refine wp_region_held_drew (S := (fun _ => True)) (by kernel_rfl) trivial (fun hH0 => ?_)
 refine wpAnyH_take (i := 1) (oi := _) (v := k3V (1, 1, 0)) rfl (by kernel_rfl) (by kernel_rfl) (by kernel_rfl) (fun _ _ _ h => h) (Or.inl ⟨by kernel_rfl, fun _ _ => by kernel_rfl⟩) trivial ?_
 (try simp only [List.getElem_toArray])
 (try simp only [List.getElem_cons_succ])
 (try simp only [List.getElem_cons_zero])
 (try simp only [Act.put])
 (try simp only [List.setIfInBounds_toArray])
 (try simp only [List.set_cons_succ])
 (try simp only [List.set_cons_zero])
 refine wpAnyH_take (i := 3) (oi := _) (v := k3V (2, 2, 0)) rfl (by kernel_rfl) (by kernel_rfl) (by kernel_rfl) (fun _ _ _ h => h) (Or.inl ⟨by kernel_rfl, fun _ _ => by kernel_rfl⟩) trivial ?_
 (try simp only [List.getElem_toArray])
 (try simp only [List.getElem_cons_succ])
 (try simp only [List.getElem_cons_zero])
 (try simp only [Act.put])
 (try simp only [List.setIfInBounds_toArray])
 (try simp only [List.set_cons_succ])
 (try simp only [List.set_cons_zero])
 refine wpAnyH_take (i := 5) (oi := _) (v := k3V (3, 3, 0)) rfl (by kernel_rfl) (by kernel_rfl) (by kernel_rfl) (fun _ _ _ h => h) (Or.inl ⟨by kernel_rfl, fun _ _ => by kernel_rfl⟩) trivial ?_
 (try simp only [List.getElem_toArray])
 (try simp only [List.getElem_cons_succ])
 (try simp only [List.getElem_cons_zero])
 (try simp only [Act.put])
 (try simp only [List.setIfInBounds_toArray])
 (try simp only [List.set_cons_succ])
 (try simp only [List.set_cons_zero])
 refine wpAnyH_take (i := 7) (oi := _) (v := k3V (4, 4, 0)) rfl (by kernel_rfl) (by kernel_rfl) (by kernel_rfl) (fun _ _ _ h => h) (Or.inl ⟨by kernel_rfl, fun _ _ => by kernel_rfl⟩) trivial ?_
 (try simp only [List.getElem_toArray])
 (try simp only [List.getElem_cons_succ])
 (try simp only [List.getElem_cons_zero])
 (try simp only [Act.put])
 (try simp only [List.setIfInBounds_toArray])
 (try simp only [List.set_cons_succ])
 (try simp only [List.set_cons_zero])
 refine wpAnyH_ready (rs := [0]) (by kernel_rfl) (by decide) (AllReadyH.cons (o := _) rfl (fun K' hK => ?_) AllReadyH.nil)
 rw [if_pos (by kernel_rfl)]
 go_simp
 refine hK.out _ _ trivial (fun _ => ?_)
 (try simp only [List.getElem_toArray])
 (try simp only [List.getElem_cons_succ])
 (try simp only [List.getElem_cons_zero])
 (try simp only [Act.put])
 (try simp only [List.setIfInBounds_toArray])
 (try simp only [List.set_cons_succ])
 (try simp only [List.set_cons_zero])
 refine fills w.heap.size w.heap.size (Nat.le_refl _) w #[true, true, false, true, false, true, false, true, false, false, false] _ [2, 4, 6, 8] [((1, 1, 0), 1), ((2, 2, 0), 2), ((3, 3, 0), 3), ((4, 4, 0), 4)] rfl (by decide) (by decide) (by decide) ?_ (by kernel_rfl) 2 ?_ 4 [false, false, false, false] rfl rfl _ [] (List.Perm.refl _) (map_made _) (by repeat (first | exact bref _ | refine bdr ?_ | refine bal ?_ _))
 ·intro k i p h1 h2
  match k, h1, h2 with
  | 0, h1, h2 => obtain rfl := Option.some.inj h1; obtain rfl := Option.some.inj h2; exact ⟨_, _, _, _, rfl, rfl, rfl, rfl, rfl, rfl, rfl⟩
  | 1, h1, h2 => obtain rfl := Option.some.inj h1; obtain rfl := Option.some.inj h2; exact ⟨_, _, _, _, rfl, rfl, rfl, rfl, rfl, rfl, rfl⟩
  | 2, h1, h2 => obtain rfl := Option.some.inj h1; obtain rfl := Option.some.inj h2; exact ⟨_, _, _, _, rfl, rfl, rfl, rfl, rfl, rfl, rfl⟩
  | 3, h1, h2 => obtain rfl := Option.some.inj h1; obtain rfl := Option.some.inj h2; exact ⟨_, _, _, _, rfl, rfl, rfl, rfl, rfl, rfl, rfl⟩
  | _ + 4, h1, _ => cases h1
 ·intro w1 L hL hI hB
  have HB := Lib.hid hB
  have HL := Lib.hid hL
  have HI := Lib.hid hI
  clear hB hL hI
  refine wpAnyH_take (i := 9) (oi := _) (v := .map (some w.heap.size)) rfl (by kernel_rfl) (by kernel_rfl) (by kernel_rfl) (fun _ _ _ h => h) (Or.inl ⟨by kernel_rfl, fun _ _ => by kernel_rfl⟩) trivial ?_
  (try simp only [List.getElem_toArray])
  (try simp only [List.getElem_cons_succ])
  (try simp only [List.getElem_cons_zero])
  (try simp only [Act.put])
  (try simp only [List.setIfInBounds_toArray])
  (try simp only [List.set_cons_succ])
  (try simp only [List.set_cons_zero])
  refine wpAnyH_take (i := 10) (oi := _) (v := .map (some w.heap.size)) rfl (by kernel_rfl) (by kernel_rfl) (by kernel_rfl) (fun _ _ _ h => h) (Or.inl ⟨by kernel_rfl, fun _ _ => by kernel_rfl⟩) trivial ?_
  (try simp only [List.getElem_toArray])
  (try simp only [List.getElem_cons_succ])
  (try simp only [List.getElem_cons_zero])
  (try simp only [Act.put])
  (try simp only [List.setIfInBounds_toArray])
  (try simp only [List.set_cons_succ])
  (try simp only [List.set_cons_zero])
  refine wpAnyH_done (by kernel_rfl) ?_ _
  go_wp2_with fail
  go_ret
  exact ⟨_, rfl, Or.inr ⟨_, _, rfl, HL.out, HI.out⟩, HB.out⟩

set_option maxRecDepth 100000 in
set_option maxHeartbeats 4000000 in
theorem mres18 (w : World) : Calls Tryz.prog 99 #[.int .i64 18] w fun r w' => ∃ m, r = .returned (.map m) ∧ TabIn w' m 18 ∧ Below w.heap.size w w' := by
 have hmm := @run_makeMap Tryz.prog
 go_enter Tryz.func99, Tryz.ntmps99
 go_wp2_with fail
 refine wp_region_held_drew (S := (fun _ => True)) (by kernel_rfl) trivial (fun hH0 => ?_)
 refine wpAnyH_take (i := 1) (oi := _) (v := k3V (1, 1, 0)) rfl (by kernel_rfl) (by kernel_rfl) (by kernel_rfl) (fun _ _ _ h => h) (Or.inl ⟨by kernel_rfl, fun _ _ => by kernel_rfl⟩) trivial ?_
 (try simp only [List.getElem_toArray])
 (try simp only [List.getElem_cons_succ])
 (try simp only [List.getElem_cons_zero])
 (try simp only [Act.put])
 (try simp only [List.setIfInBounds_toArray])
 (try simp only [List.set_cons_succ])
 (try simp only [List.set_cons_zero])
 refine wpAnyH_take (i := 3) (oi := _) (v := k3V (2, 2, 0)) rfl (by kernel_rfl) (by kernel_rfl) (by kernel_rfl) (fun _ _ _ h => h) (Or.inl ⟨by kernel_rfl, fun _ _ => by kernel_rfl⟩) trivial ?_
 (try simp only [List.getElem_toArray])
 (try simp only [List.getElem_cons_succ])
 (try simp only [List.getElem_cons_zero])
 (try simp only [Act.put])
 (try simp only [List.setIfInBounds_toArray])
 (try simp only [List.set_cons_succ])
 (try simp only [List.set_cons_zero])
 refine wpAnyH_take (i := 5) (oi := _) (v := k3V (3, 3, 0)) rfl (by kernel_rfl) (by kernel_rfl) (by kernel_rfl) (fun _ _ _ h => h) (Or.inl ⟨by kernel_rfl, fun _ _ => by kernel_rfl⟩) trivial ?_
 (try simp only [List.getElem_toArray])
 (try simp only [List.getElem_cons_succ])
 (try simp only [List.getElem_cons_zero])
 (try simp only [Act.put])
 (try simp only [List.setIfInBounds_toArray])
 (try simp only [List.set_cons_succ])
 (try simp only [List.set_cons_zero])
 refine wpAnyH_take (i := 7) (oi := _) (v := k3V (4, 4, 0)) rfl (by kernel_rfl) (by kernel_rfl) (by kernel_rfl) (fun _ _ _ h => h) (Or.inl ⟨by kernel_rfl, fun _ _ => by kernel_rfl⟩) trivial ?_
 (try simp only [List.getElem_toArray])
 (try simp only [List.getElem_cons_succ])
 (try simp only [List.getElem_cons_zero])
 (try simp only [Act.put])
 (try simp only [List.setIfInBounds_toArray])
 (try simp only [List.set_cons_succ])
 (try simp only [List.set_cons_zero])
 refine wpAnyH_ready (rs := [0]) (by kernel_rfl) (by decide) (AllReadyH.cons (o := _) rfl (fun K' hK => ?_) AllReadyH.nil)
 rw [if_pos (by kernel_rfl)]
 go_simp
 refine hK.out _ _ trivial (fun _ => ?_)
 (try simp only [List.getElem_toArray])
 (try simp only [List.getElem_cons_succ])
 (try simp only [List.getElem_cons_zero])
 (try simp only [Act.put])
 (try simp only [List.setIfInBounds_toArray])
 (try simp only [List.set_cons_succ])
 (try simp only [List.set_cons_zero])
 refine fills w.heap.size w.heap.size (Nat.le_refl _) w #[true, true, false, true, false, true, false, true, false, false, false] _ [2, 4, 6, 8] [((1, 1, 0), 1), ((2, 2, 0), 2), ((3, 3, 0), 3), ((4, 4, 0), 4)] rfl (by decide) (by decide) (by decide) ?_ (by kernel_rfl) 2 ?_ 4 [false, false, false, false] rfl rfl _ [] (List.Perm.refl _) (map_made _) (by repeat (first | exact bref _ | refine bdr ?_ | refine bal ?_ _))
 ·intro k i p h1 h2
  match k, h1, h2 with
  | 0, h1, h2 => obtain rfl := Option.some.inj h1; obtain rfl := Option.some.inj h2; exact ⟨_, _, _, _, rfl, rfl, rfl, rfl, rfl, rfl, rfl⟩
  | 1, h1, h2 => obtain rfl := Option.some.inj h1; obtain rfl := Option.some.inj h2; exact ⟨_, _, _, _, rfl, rfl, rfl, rfl, rfl, rfl, rfl⟩
  | 2, h1, h2 => obtain rfl := Option.some.inj h1; obtain rfl := Option.some.inj h2; exact ⟨_, _, _, _, rfl, rfl, rfl, rfl, rfl, rfl, rfl⟩
  | 3, h1, h2 => obtain rfl := Option.some.inj h1; obtain rfl := Option.some.inj h2; exact ⟨_, _, _, _, rfl, rfl, rfl, rfl, rfl, rfl, rfl⟩
  | _ + 4, h1, _ => cases h1
 ·intro w1 L hL hI hB
  have HB := Lib.hid hB
  have HL := Lib.hid hL
  have HI := Lib.hid hI
  clear hB hL hI
  refine wpAnyH_take (i := 9) (oi := _) (v := .map (some w.heap.size)) rfl (by kernel_rfl) (by kernel_rfl) (by kernel_rfl) (fun _ _ _ h => h) (Or.inl ⟨by kernel_rfl, fun _ _ => by kernel_rfl⟩) trivial ?_
  (try simp only [List.getElem_toArray])
  (try simp only [List.getElem_cons_succ])
  (try simp only [List.getElem_cons_zero])
  (try simp only [Act.put])
  (try simp only [List.setIfInBounds_toArray])
  (try simp only [List.set_cons_succ])
  (try simp only [List.set_cons_zero])
  refine wpAnyH_take (i := 10) (oi := _) (v := .map (some w.heap.size)) rfl (by kernel_rfl) (by kernel_rfl) (by kernel_rfl) (fun _ _ _ h => h) (Or.inl ⟨by kernel_rfl, fun _ _ => by kernel_rfl⟩) trivial ?_
  (try simp only [List.getElem_toArray])
  (try simp only [List.getElem_cons_succ])
  (try simp only [List.getElem_cons_zero])
  (try simp only [Act.put])
  (try simp only [List.setIfInBounds_toArray])
  (try simp only [List.set_cons_succ])
  (try simp only [List.set_cons_zero])
  refine wpAnyH_done (by kernel_rfl) ?_ _
  go_wp2_with fail
  go_ret
  exact ⟨_, rfl, Or.inr ⟨_, _, rfl, HL.out, HI.out⟩, HB.out⟩

set_option maxRecDepth 100000 in
set_option maxHeartbeats 4000000 in
theorem mres19 (w : World) : Calls Tryz.prog 99 #[.int .i64 19] w fun r w' => ∃ m, r = .returned (.map m) ∧ TabIn w' m 19 ∧ Below w.heap.size w w' := by
 have hmm := @run_makeMap Tryz.prog
 go_enter Tryz.func99, Tryz.ntmps99
 go_wp2_with fail
 refine wp_region_held_drew (S := (fun _ => True)) (by kernel_rfl) trivial (fun hH0 => ?_)
 refine wpAnyH_take (i := 1) (oi := _) (v := k3V (5, 1, 1)) rfl (by kernel_rfl) (by kernel_rfl) (by kernel_rfl) (fun _ _ _ h => h) (Or.inl ⟨by kernel_rfl, fun _ _ => by kernel_rfl⟩) trivial ?_
 (try simp only [List.getElem_toArray])
 (try simp only [List.getElem_cons_succ])
 (try simp only [List.getElem_cons_zero])
 (try simp only [Act.put])
 (try simp only [List.setIfInBounds_toArray])
 (try simp only [List.set_cons_succ])
 (try simp only [List.set_cons_zero])
 refine wpAnyH_take (i := 3) (oi := _) (v := k3V (5, 2, 2)) rfl (by kernel_rfl) (by kernel_rfl) (by kernel_rfl) (fun _ _ _ h => h) (Or.inl ⟨by kernel_rfl, fun _ _ => by kernel_rfl⟩) trivial ?_
 (try simp only [List.getElem_toArray])
 (try simp only [List.getElem_cons_succ])
 (try simp only [List.getElem_cons_zero])
 (try simp only [Act.put])
 (try simp only [List.setIfInBounds_toArray])
 (try simp only [List.set_cons_succ])
 (try simp only [List.set_cons_zero])
 refine wpAnyH_take (i := 5) (oi := _) (v := k3V (5, 3, 3)) rfl (by kernel_rfl) (by kernel_rfl) (by kernel_rfl) (fun _ _ _ h => h) (Or.inl ⟨by kernel_rfl, fun _ _ => by kernel_rfl⟩) trivial ?_
 (try simp only [List.getElem_toArray])
 (try simp only [List.getElem_cons_succ])
 (try simp only [List.getElem_cons_zero])
 (try simp only [Act.put])
 (try simp only [List.setIfInBounds_toArray])
 (try simp only [List.set_cons_succ])
 (try simp only [List.set_cons_zero])
 refine wpAnyH_take (i := 7) (oi := _) (v := k3V (5, 4, 4)) rfl (by kernel_rfl) (by kernel_rfl) (by kernel_rfl) (fun _ _ _ h => h) (Or.inl ⟨by kernel_rfl, fun _ _ => by kernel_rfl⟩) trivial ?_
 (try simp only [List.getElem_toArray])
 (try simp only [List.getElem_cons_succ])
 (try simp only [List.getElem_cons_zero])
 (try simp only [Act.put])
 (try simp only [List.setIfInBounds_toArray])
 (try simp only [List.set_cons_succ])
 (try simp only [List.set_cons_zero])
 refine wpAnyH_take (i := 9) (oi := _) (v := k3V (5, 5, 5)) rfl (by kernel_rfl) (by kernel_rfl) (by kernel_rfl) (fun _ _ _ h => h) (Or.inl ⟨by kernel_rfl, fun _ _ => by kernel_rfl⟩) trivial ?_
 (try simp only [List.getElem_toArray])
 (try simp only [List.getElem_cons_succ])
 (try simp only [List.getElem_cons_zero])
 (try simp only [Act.put])
 (try simp only [List.setIfInBounds_toArray])
 (try simp only [List.set_cons_succ])
 (try simp only [List.set_cons_zero])
 refine wpAnyH_ready (rs := [0]) (by kernel_rfl) (by decide) (AllReadyH.cons (o := _) rfl (fun K' hK => ?_) AllReadyH.nil)
 rw [if_pos (by kernel_rfl)]
 go_simp
 refine hK.out _ _ trivial (fun _ => ?_)
 (try simp only [List.getElem_toArray])
 (try simp only [List.getElem_cons_succ])
 (try simp only [List.getElem_cons_zero])
 (try simp only [Act.put])
 (try simp only [List.setIfInBounds_toArray])
 (try simp only [List.set_cons_succ])
 (try simp only [List.set_cons_zero])
 refine fills w.heap.size w.heap.size (Nat.le_refl _) w #[true, true, false, true, false, true, false, true, false, true, false, false, false] _ [2, 4, 6, 8, 10] [((5, 1, 1), 1), ((5, 2, 2), 2), ((5, 3, 3), 3), ((5, 4, 4), 4), ((5, 5, 5), 5)] rfl (by decide) (by decide) (by decide) ?_ (by kernel_rfl) 2 ?_ 5 [false, false, false, false, false] rfl rfl _ [] (List.Perm.refl _) (map_made _) (by repeat (first | exact bref _ | refine bdr ?_ | refine bal ?_ _))
 ·intro k i p h1 h2
  match k, h1, h2 with
  | 0, h1, h2 => obtain rfl := Option.some.inj h1; obtain rfl := Option.some.inj h2; exact ⟨_, _, _, _, rfl, rfl, rfl, rfl, rfl, rfl, rfl⟩
  | 1, h1, h2 => obtain rfl := Option.some.inj h1; obtain rfl := Option.some.inj h2; exact ⟨_, _, _, _, rfl, rfl, rfl, rfl, rfl, rfl, rfl⟩
  | 2, h1, h2 => obtain rfl := Option.some.inj h1; obtain rfl := Option.some.inj h2; exact ⟨_, _, _, _, rfl, rfl, rfl, rfl, rfl, rfl, rfl⟩
  | 3, h1, h2 => obtain rfl := Option.some.inj h1; obtain rfl := Option.some.inj h2; exact ⟨_, _, _, _, rfl, rfl, rfl, rfl, rfl, rfl, rfl⟩
  | 4, h1, h2 => obtain rfl := Option.some.inj h1; obtain rfl := Option.some.inj h2; exact ⟨_, _, _, _, rfl, rfl, rfl, rfl, rfl, rfl, rfl⟩
  | _ + 5, h1, _ => cases h1
 ·intro w1 L hL hI hB
  have HB := Lib.hid hB
  have HL := Lib.hid hL
  have HI := Lib.hid hI
  clear hB hL hI
  refine wpAnyH_take (i := 11) (oi := _) (v := .map (some w.heap.size)) rfl (by kernel_rfl) (by kernel_rfl) (by kernel_rfl) (fun _ _ _ h => h) (Or.inl ⟨by kernel_rfl, fun _ _ => by kernel_rfl⟩) trivial ?_
  (try simp only [List.getElem_toArray])
  (try simp only [List.getElem_cons_succ])
  (try simp only [List.getElem_cons_zero])
  (try simp only [Act.put])
  (try simp only [List.setIfInBounds_toArray])
  (try simp only [List.set_cons_succ])
  (try simp only [List.set_cons_zero])
  refine wpAnyH_take (i := 12) (oi := _) (v := .map (some w.heap.size)) rfl (by kernel_rfl) (by kernel_rfl) (by kernel_rfl) (fun _ _ _ h => h) (Or.inl ⟨by kernel_rfl, fun _ _ => by kernel_rfl⟩) trivial ?_
  (try simp only [List.getElem_toArray])
  (try simp only [List.getElem_cons_succ])
  (try simp only [List.getElem_cons_zero])
  (try simp only [Act.put])
  (try simp only [List.setIfInBounds_toArray])
  (try simp only [List.set_cons_succ])
  (try simp only [List.set_cons_zero])
  refine wpAnyH_done (by kernel_rfl) ?_ _
  go_wp2_with fail
  go_ret
  exact ⟨_, rfl, Or.inr ⟨_, _, rfl, HL.out, HI.out⟩, HB.out⟩

set_option maxRecDepth 100000 in
set_option maxHeartbeats 4000000 in
theorem mres_none (o : Int) (ho : ¬ (5 ≤ o ∧ o ≤ 19)) (w : World) : Calls Tryz.prog 99 #[.int .i64 o] w fun r w' => ∃ m, r = .returned (.map m) ∧ TabIn w' m o ∧ Below w.heap.size w w' := by
 have e5 : (o == 5) = false := by rw [beq_eq_false_iff_ne]; omega
 have e6 : (o == 6) = false := by rw [beq_eq_false_iff_ne]; omega
 have e7 : (o == 7) = false := by rw [beq_eq_false_iff_ne]; omega
 have e8 : (o == 8) = false := by rw [beq_eq_false_iff_ne]; omega
 have e9 : (o == 9) = false := by rw [beq_eq_false_iff_ne]; omega
 have e10 : (o == 10) = false := by rw [beq_eq_false_iff_ne]; omega
 have e11 : (o == 11) = false := by rw [beq_eq_false_iff_ne]; omega
 have e12 : (o == 12) = false := by rw [beq_eq_false_iff_ne]; omega
 have e13 : (o == 13) = false := by rw [beq_eq_false_iff_ne]; omega
 have e14 : (o == 14) = false := by rw [beq_eq_false_iff_ne]; omega
 have e15 : (o == 15) = false := by rw [beq_eq_false_iff_ne]; omega
 have e16 : (o == 16) = false := by rw [beq_eq_false_iff_ne]; omega
 have e17 : (o == 17) = false := by rw [beq_eq_false_iff_ne]; omega
 have e18 : (o == 18) = false := by rw [beq_eq_false_iff_ne]; omega
 have e19 : (o == 19) = false := by rw [beq_eq_false_iff_ne]; omega
 have HT := Lib.hid (tab_none ho)
 clear ho
 go_enter Tryz.func99, Tryz.ntmps99
 go_wp2_with fail
 go_ret
 exact ⟨_, rfl, Or.inl ⟨rfl, HT.out⟩, by repeat (first | exact bref _ | refine bdr ?_ | refine bal ?_ _)⟩

theorem mresults (o : Int) (w : World) : Calls Tryz.prog 99 #[.int .i64 o] w fun r w' => ∃ m, r = .returned (.map m) ∧ TabIn w' m o ∧ Below w.heap.size w w' := by
 by_cases ho : 5 ≤ o ∧ o ≤ 19
 ·have : o = 5 ∨ o = 6 ∨ o = 7 ∨ o = 8 ∨ o = 9 ∨ o = 10 ∨ o = 11 ∨ o = 12 ∨ o = 13 ∨ o = 14 ∨ o = 15 ∨ o = 16 ∨ o = 17 ∨ o = 18 ∨ o = 19 := by omega
  rcases this with rfl | rfl | rfl | rfl | rfl | rfl | rfl | rfl | rfl | rfl | rfl | rfl | rfl | rfl | rfl
  ·exact mres5 w
  ·exact mres6 w
  ·exact mres7 w
  ·exact mres8 w
  ·exact mres9 w
  ·exact mres10 w
  ·exact mres11 w
  ·exact mres12 w
  ·exact mres13 w
  ·exact mres14 w
  ·exact mres15 w
  ·exact mres16 w
  ·exact mres17 w
  ·exact mres18 w
  ·exact mres19 w
 ·exact mres_none o ho w
end Go.Proofs.YthanoilbcdhbkaaGreatDoor
