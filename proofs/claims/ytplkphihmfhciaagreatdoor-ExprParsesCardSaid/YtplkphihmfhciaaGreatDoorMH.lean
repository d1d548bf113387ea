/-
  Merged: Parse. Parse, whole. Parse, where it reads an expression. Parse: out of range; all its answers.
-/
import Derived.Test.YtplkphihmfhciaaGreatDoorGI
import Derived.Defers
import Derived.Recover
/- Parse. -/
namespace Go.Proofs.YtplkphihmfhciaaGreatDoor
open Go Go.RowKit Go.Lib Go.Shelf WM TM EM

theorem parser_all (wb : World) (pb : Nat) (ao : Option Addr) (c : Nat) (l : List Tok) (g : Hid (Ga wb pb ao c l)) : ∀ n, CE wb pb ao c l n ∧ CF wb pb ao c l n ∧ CP wb pb ao c l n ∧ CQ wb pb ao c l n := by
 intro n
 induction n with
 | zero => exact ⟨fun r k w o _ _ h => (by rw [ex] at h; cases h), fun r k w o _ _ h => (by simp [fi] at h), fun k w o _ h => (by simp [EM.pr] at h), fun q k w o _ h => (by simp [pair] at h)⟩
 | succ n ih =>
  obtain ⟨i1, i2, i3, i4⟩ := ih
  exact ⟨qexpr wb pb ao c l g n (Lib.hid i1) (Lib.hid i2), qfirst wb pb ao c l g n (Lib.hid i1) (Lib.hid i3), qprimary wb pb ao c l g n (Lib.hid i1) (Lib.hid i4), qpair wb pb ao c l g n (Lib.hid i1)⟩
def Bo (b : Nat) (v : Value) (W : World) : Prop := W.cell? ⟨b, 0, none⟩ = some v ∧ W.frozen? ⟨b, 0, none⟩ = false
theorem wpOpsS_rec {P : Program} {ops : Array Oper} {Q : Exit → Act → List Frame → World → Prop} {i : Nat} {rest : List Nat} {a : Act} {cs cs' : List Frame} {w : World} {o : Oper} {v : Value} (ho : ops[i]? = some o) (hw : Region.wanted o (yielded ops a.tmps) = true) (hr : (execOp a.eval o).run P w = .ok .recover w) (hc : recoverD cs = some (v, cs')) (h : wpOpsS P ops Q rest (a.put o.dst v) cs' w) : wpOpsS P ops Q (i :: rest) a cs w := by
 simp only [wpOpsS, ho, hw, if_true, hr, hc]
 exact h
theorem wpOpsS_no {P : Program} {ops : Array Oper} {Q : Exit → Act → List Frame → World → Prop} {i : Nat} {rest : List Nat} {a : Act} {cs : List Frame} {w : World} {o : Oper} (ho : ops[i]? = some o) (hw : Region.wanted o (yielded ops a.tmps) = true) (hr : (execOp a.eval o).run P w = .ok .recover w) (hc : recoverD cs = none) (h : wpOpsS P ops Q rest (a.put o.dst .nilIface) cs w) : wpOpsS P ops Q (i :: rest) a cs w := by
 simp only [wpOpsS, ho, hw, if_true, hr, hc]
 exact h
theorem wpOpsS_val {P : Program} {ops : Array Oper} {Q : Exit → Act → List Frame → World → Prop} {i : Nat} {rest : List Nat} {a : Act} {cs : List Frame} {w : World} {o : Oper} {v : Value} (ho : ops[i]? = some o) (hw : Region.wanted o (yielded ops a.tmps) = true) (hr : (execOp a.eval o).run P w = .ok (.value v) w) (h : wpOpsS P ops Q rest (a.put o.dst v) cs w) : wpOpsS P ops Q (i :: rest) a cs w := by
 simp only [wpOpsS, ho, hw, if_true, hr, Oper.upon]
 exact h
set_option maxRecDepth 100000 in
set_option maxHeartbeats 4000000 in
theorem mcatch_bad (b4 b5 b6 : Nat) (x5 x6 : Value) (k : Nat) (w : World) (h4 : Zx b4 w) (h5 : Bo b5 x5 w) (h6 : Bo b6 x6 w) (older : List PanicEntry) (n1 : b4 ≠ b5) (n2 : b4 ≠ b6) (n3 : b5 ≠ b6) :
  CallsD Tryz.prog 28 #[.pointer (some ⟨b4, 0, none⟩), .pointer (some ⟨b5, 0, none⟩), .pointer (some ⟨b6, 0, none⟩)] (.panicking ({ v := .iface 49 (.int .i64 (k : Int)), recovered := false } :: older)) w fun e u' w' =>
   e = .returned (.tuple #[]) ∧ u' = .panicking ({ v := .iface 49 (.int .i64 (k : Int)), recovered := true } :: older) ∧
    w' = (((((w.setCell ⟨b4, 0, none⟩ (.int .i64 0)).setCell ⟨b4, 1, none⟩ (.int .i64 0)).setCell ⟨b4, 2, none⟩ (.string ⟨#[]⟩)).setCell ⟨b4, 3, none⟩ (.slice none 0 0)).setCell ⟨b5, 0, none⟩ (.int .i64 (k : Int))).setCell ⟨b6, 0, none⟩ (.int .i64 2) := by
 obtain ⟨z0, z1, z2, z3, fz⟩ := h4
 obtain ⟨a5, f5⟩ := h5
 obtain ⟨a6, f6⟩ := h6
 refine callsD_of_wpS Tryz.func28 rfl fun c₀ cs hu => ?_
 have hta : ∀ (v : Value) (W : World), (Instr.typeAssert (.iface 49 v) 20 49 true).run Tryz.prog W = .ok (.tuple #[v, .bool true]) W := fun _ _ => by kernel_rfl
 simp only [Tryz.ntmps28, List.size_toArray, List.length_cons, List.length_nil, Nat.reduceAdd, Nat.reduceSub, Array.replicate_succ, Array.replicate_zero, List.push_toArray, List.append_toArray, List.nil_append, List.cons_append]
 apply wpS_seq
 apply wpS_region
 have hu' : recoverD (c₀ :: cs) = some (.iface 49 (.int .i64 (k : Int)), { c₀ with mode := .panicking ({ v := .iface 49 (.int .i64 (k : Int)), recovered := true } :: older) } :: cs) := by simp [recoverD, hu]
 refine wpOpsS_rec (o := _) rfl (by kernel_rfl) (by kernel_rfl) hu' ?_
 (try simp only [List.getElem_toArray])
 (try simp only [List.getElem_cons_succ])
 (try simp only [List.getElem_cons_zero])
 (try simp only [Act.put])
 (try simp only [List.setIfInBounds_toArray])
 (try simp only [List.set_cons_succ])
 (try simp only [List.set_cons_zero])
 refine wpOpsS_val (o := _) (v := ?_) rfl (by kernel_rfl) ?_ ?_
 rotate_left
 ·go_simp; (try with_reducible rfl)
 (try simp only [List.getElem_toArray])
 (try simp only [List.getElem_cons_succ])
 (try simp only [List.getElem_cons_zero])
 (try simp only [Act.put])
 (try simp only [List.setIfInBounds_toArray])
 (try simp only [List.set_cons_succ])
 (try simp only [List.set_cons_zero])
 refine wpOpsS_val (o := _) (v := ?_) rfl (by kernel_rfl) ?_ ?_
 rotate_left
 ·go_simp; (try with_reducible rfl)
 (try simp only [List.getElem_toArray])
 (try simp only [List.getElem_cons_succ])
 (try simp only [List.getElem_cons_zero])
 (try simp only [Act.put])
 (try simp only [List.setIfInBounds_toArray])
 (try simp only [List.set_cons_succ])
 (try simp only [List.set_cons_zero])
 refine wpOpsS_val (o := _) (v := ?_) rfl (by kernel_rfl) ?_ ?_
 rotate_left
 ·go_simp; (try with_reducible rfl)
 (try simp only [List.getElem_toArray])
 (try simp only [List.getElem_cons_succ])
 (try simp only [List.getElem_cons_zero])
 (try simp only [Act.put])
 (try simp only [List.setIfInBounds_toArray])
 (try simp only [List.set_cons_succ])
 (try simp only [List.set_cons_zero])
 refine wpOpsS_val (o := _) (v := ?_) rfl (by kernel_rfl) ?_ ?_
 rotate_left
 ·go_simp; (try with_reducible rfl)
 (try simp only [List.getElem_toArray])
 (try simp only [List.getElem_cons_succ])
 (try simp only [List.getElem_cons_zero])
 (try simp only [Act.put])
 (try simp only [List.setIfInBounds_toArray])
 (try simp only [List.set_cons_succ])
 (try simp only [List.set_cons_zero])
 refine wpOpsS_val (o := _) (v := ?_) rfl (by kernel_rfl) ?_ ?_
 rotate_left
 ·go_simp; (try with_reducible rfl)
 (try simp only [List.getElem_toArray])
 (try simp only [List.getElem_cons_succ])
 (try simp only [List.getElem_cons_zero])
 (try simp only [Act.put])
 (try simp only [List.setIfInBounds_toArray])
 (try simp only [List.set_cons_succ])
 (try simp only [List.set_cons_zero])
 refine wpOpsS_val (o := _) (v := ?_) rfl (by kernel_rfl) ?_ ?_
 rotate_left
 ·go_simp; (try with_reducible rfl)
 (try simp only [List.getElem_toArray])
 (try simp only [List.getElem_cons_succ])
 (try simp only [List.getElem_cons_zero])
 (try simp only [Act.put])
 (try simp only [List.setIfInBounds_toArray])
 (try simp only [List.set_cons_succ])
 (try simp only [List.set_cons_zero])
 show Exit.thenS _ _ Exit.normal _ _ _
 simp only [Exit.thenS]
 refine wpS_of_wp ?_
 go_wp2_with fail
 simp [bodyPostS, results, Tryz.results28]
set_option maxRecDepth 100000 in
set_option maxHeartbeats 4000000 in
theorem mcatch_idle (p4 p5 p6 : Addr) (w : World) :
  CallsD Tryz.prog 28 #[.pointer (some p4), .pointer (some p5), .pointer (some p6)] .returning w fun e u' w' =>
   e = .returned (.tuple #[]) ∧ u' = .returning ∧ w' = w := by
 refine callsD_of_wpS Tryz.func28 rfl fun c₀ cs hu => ?_
 have hta : ∀ (W : World), (Instr.typeAssert .nilIface 20 49 true).run Tryz.prog W = .ok (.tuple #[.int .i64 0, .bool false]) W := fun _ => by kernel_rfl
 simp only [Tryz.ntmps28, List.size_toArray, List.length_cons, List.length_nil, Nat.reduceAdd, Nat.reduceSub, Array.replicate_succ, Array.replicate_zero, List.push_toArray, List.append_toArray, List.nil_append, List.cons_append]
 apply wpS_seq
 apply wpS_region
 have hu' : recoverD (c₀ :: cs) = none := by simp [recoverD, hu]
 refine wpOpsS_no (o := _) rfl (by kernel_rfl) (by kernel_rfl) hu' ?_
 (try simp only [List.getElem_toArray])
 (try simp only [List.getElem_cons_succ])
 (try simp only [List.getElem_cons_zero])
 (try simp only [Act.put])
 (try simp only [List.setIfInBounds_toArray])
 (try simp only [List.set_cons_succ])
 (try simp only [List.set_cons_zero])
 refine wpOpsS_val (o := _) (v := ?_) rfl (by kernel_rfl) ?_ ?_
 rotate_left
 ·go_simp; (try with_reducible rfl)
 (try simp only [List.getElem_toArray])
 (try simp only [List.getElem_cons_succ])
 (try simp only [List.getElem_cons_zero])
 (try simp only [Act.put])
 (try simp only [List.setIfInBounds_toArray])
 (try simp only [List.set_cons_succ])
 (try simp only [List.set_cons_zero])
 refine wpOpsS_val (o := _) (v := ?_) rfl (by kernel_rfl) ?_ ?_
 rotate_left
 ·go_simp; (try with_reducible rfl)
 (try simp only [List.getElem_toArray])
 (try simp only [List.getElem_cons_succ])
 (try simp only [List.getElem_cons_zero])
 (try simp only [Act.put])
 (try simp only [List.setIfInBounds_toArray])
 (try simp only [List.set_cons_succ])
 (try simp only [List.set_cons_zero])
 refine wpOpsS_val (o := _) (v := ?_) rfl (by kernel_rfl) ?_ ?_
 rotate_left
 ·go_simp; (try with_reducible rfl)
 (try simp only [List.getElem_toArray])
 (try simp only [List.getElem_cons_succ])
 (try simp only [List.getElem_cons_zero])
 (try simp only [Act.put])
 (try simp only [List.setIfInBounds_toArray])
 (try simp only [List.set_cons_succ])
 (try simp only [List.set_cons_zero])
 refine wpOpsS_val (o := _) (v := ?_) rfl (by kernel_rfl) ?_ ?_
 rotate_left
 ·go_simp; (try with_reducible rfl)
 (try simp only [List.getElem_toArray])
 (try simp only [List.getElem_cons_succ])
 (try simp only [List.getElem_cons_zero])
 (try simp only [Act.put])
 (try simp only [List.setIfInBounds_toArray])
 (try simp only [List.set_cons_succ])
 (try simp only [List.set_cons_zero])
 refine wpOpsS_val (o := _) (v := ?_) rfl (by kernel_rfl) ?_ ?_
 rotate_left
 ·go_simp; (try with_reducible rfl)
 (try simp only [List.getElem_toArray])
 (try simp only [List.getElem_cons_succ])
 (try simp only [List.getElem_cons_zero])
 (try simp only [Act.put])
 (try simp only [List.setIfInBounds_toArray])
 (try simp only [List.set_cons_succ])
 (try simp only [List.set_cons_zero])
 refine wpOpsS_val (o := _) (v := ?_) rfl (by kernel_rfl) ?_ ?_
 rotate_left
 ·go_simp; (try with_reducible rfl)
 (try simp only [List.getElem_toArray])
 (try simp only [List.getElem_cons_succ])
 (try simp only [List.getElem_cons_zero])
 (try simp only [Act.put])
 (try simp only [List.setIfInBounds_toArray])
 (try simp only [List.set_cons_succ])
 (try simp only [List.set_cons_zero])
 show Exit.thenS _ _ Exit.normal _ _ _
 simp only [Exit.thenS]
 refine wpS_of_wp ?_
 go_wp2_with fail
 cases c₀
 simp_all [bodyPostS, results, Tryz.results28]
end Go.Proofs.YtplkphihmfhciaaGreatDoor

/- Parse, whole. -/
namespace Go.Proofs.YtplkphihmfhciaaGreatDoor
open Go Go.RowKit Go.Lib Go.Shelf WM TM EM

def pO (l : List Tok) (at' : Int) : Out → Ex × Int × Int
 | .ok e _ m => if vE e = 0 then (e, ((l.length - m.length : Nat) : Int), 0) else (E0, at', vE e)
 | .bad m => (E0, ((l.length - m.length : Nat) : Int), 2)
theorem drop_len {l : List Tok} {k : Nat} (h : k ≤ l.length) : l.length - (l.drop k).length = k := by rw [List.length_drop]; omega
def pU (w : World) (ao : Option Addr) (n c : Nat) (k : Nat) : World :=
 (((w.alloc (.cells #[.int .i64 0, .int .i64 0, .string ⟨#[]⟩, .slice none 0 0] 27)).alloc (.cells #[.int .i64 0] 3)).alloc (.cells #[.int .i64 0] 28)).alloc (.cells #[.slice ao n c, .int .i64 (k : Int)] 52)
theorem pU_pa (w : World) (ao : Option Addr) (c : Nat) (l : List Tok) (k : Nat) (hk : k ≤ l.length) : Pa w (w.heap.size + 1 + 1 + 1) ao c l k (pU w ao l.length c k) := by
 unfold pU
 refine ⟨bal (bal (bal (bal (bref w) _) _) _) _, by simp [go_sem], by simp [go_sem], by simp [go_sem], fun j hj => ?_, hk⟩
 have h := World.cell?_alloc_new (((w.alloc (.cells #[.int .i64 0, .int .i64 0, .string ⟨#[]⟩, .slice none 0 0] 27)).alloc (.cells #[.int .i64 0] 3)).alloc (.cells #[.int .i64 0] 28)) #[.slice ao l.length c, .int .i64 (k : Int)] 52 j
 rw [Array.getElem?_eq_none (by simp; omega)] at h
 simpa using h
theorem pU_z (w : World) (ao : Option Addr) (n c k : Nat) : Zx w.heap.size (pU w ao n c k) ∧ Bo (w.heap.size + 1) (.int .i64 0) (pU w ao n c k) ∧ Bo (w.heap.size + 1 + 1) (.int .i64 0) (pU w ao n c k) := by
 unfold pU
 exact ⟨⟨by simp [go_sem], by simp [go_sem], by simp [go_sem], by simp [go_sem], fun j => by simp [go_sem]⟩, ⟨by simp [go_sem], by simp [go_sem]⟩, ⟨by simp [go_sem], by simp [go_sem]⟩⟩
set_option maxRecDepth 100000 in
set_option maxHeartbeats 4000000 in
theorem mparse_bad (ao : Option Addr) (c : Nat) (l : List Tok) (k0 : Nat) (hk0 : k0 ≤ l.length) (w : World) (hG : Gf w) (hS : Es w) (hT : TokensAt ao l w) (hlen : l.length ≤ 1000000) (htx : ∀ t ∈ l, t.2.2.length ≤ 1000000) (m : List Tok) (hE : E 0 (l.drop k0) (.bad m)) :
  Calls Tryz.prog 10 #[.slice ao l.length c, .int .i64 (k0 : Int)] w fun r w' => ∃ so cap, r = .returned (.tuple #[vx E0 so cap, .int .i64 ((l.length - m.length : Nat) : Int), .int .i64 2]) ∧ Lies (E0, so, cap) w' ∧ Below w.heap.size w w' := by
 have hmf : ∀ (fn : Fn) (first cap : Array Value) (w : World), (Instr.makeFunc fn first cap).run Tryz.prog w = .ok (.func fn first cap) w := fun _ _ _ _ => rfl
 obtain ⟨n, hn⟩ := hE
 have hg : Ga w (w.heap.size + 1 + 1 + 1) ao c l := ⟨hG, hS, hT, by omega, hlen, htx⟩
 have CE0 := (parser_all w (w.heap.size + 1 + 1 + 1) ao c l (Lib.hid hg) n).1
 have EX := Lib.hid (fun W h => CE0 0 k0 W _ (by omega) h hn)
 have hr1 : ¬ ((k0 : Int) < 0) := by omega
 have hr2 : ¬ (((l.length : Nat) : Int) < (k0 : Int)) := by omega
 clear CE0 hg hG hS hT htx
 go_enter_defers Tryz.func10, Tryz.ntmps10
 go_wp2_with fail
 refine (EX.out _ (pU_pa w ao c l k0 hk0)).mono ?_
 rintro r W1 ⟨k', hk', hm, rfl, kv⟩
 have hz := pU_z w ao l.length c k0
 have hne : ∀ i, i < w.heap.size + 1 + 1 + 1 → i ≠ w.heap.size + 1 + 1 + 1 := fun i h => by omega
 have z4 := hz.1.kp kv (by omega)
 have b5 : Bo (w.heap.size + 1) (.int .i64 0) W1 := ⟨kv.cell (by simp) hz.2.1.1, kv.frozen (by simp) (World.block_lt_of_cell? _ _ hz.2.1.1) hz.2.1.2⟩
 have b6 : Bo (w.heap.size + 1 + 1) (.int .i64 0) W1 := ⟨kv.cell (by simp) hz.2.2.1, kv.frozen (by simp) (World.block_lt_of_cell? _ _ hz.2.2.1) hz.2.2.2⟩
 have hB := kv.below (pU_pa w ao c l k0 hk0).b (Nat.le_refl _) (by omega)
 unfold Wr
 refine leaves_cons (f := 28) (args := #[.pointer (some ⟨w.heap.size, 0, none⟩), .pointer (some ⟨w.heap.size + 1, 0, none⟩), .pointer (some ⟨w.heap.size + 1 + 1, 0, none⟩)]) (by simp) (by simp [go_sem]) ?_
 refine (mcatch_bad _ _ _ _ _ k' W1 z4 b5 b6 [] (by omega) (by omega) (by omega)).mono ?_
 rintro e u' W2 ⟨rfl, rfl, rfl⟩
 have hlen2 : l.length - m.length = k' := by rw [hm]; exact drop_len hk'
 rw [hlen2]
 obtain ⟨z0, z1, z2, z3, _⟩ := z4
 obtain ⟨a5, _⟩ := b5
 obtain ⟨a6, _⟩ := b6
 have hB9 : Below w.heap.size w ((((((W1.setCell ⟨w.heap.size, 0, none⟩ (.int .i64 0)).setCell ⟨w.heap.size, 1, none⟩ (.int .i64 0)).setCell ⟨w.heap.size, 2, none⟩ (.string ⟨#[]⟩)).setCell ⟨w.heap.size, 3, none⟩ (.slice none 0 0)).setCell ⟨w.heap.size + 1, 0, none⟩ (.int .i64 (k' : Int))).setCell ⟨w.heap.size + 1 + 1, 0, none⟩ (.int .i64 2)) :=
  (((((hB.setCell (p := ⟨w.heap.size, 0, none⟩) (Nat.le_refl _) _).setCell (p := ⟨w.heap.size, 1, none⟩) (Nat.le_refl _) _).setCell (p := ⟨w.heap.size, 2, none⟩) (Nat.le_refl _) _).setCell (p := ⟨w.heap.size, 3, none⟩) (Nat.le_refl _) _).setCell (p := ⟨w.heap.size + 1, 0, none⟩) (by show w.heap.size ≤ w.heap.size + 1; omega) _).setCell (p := ⟨w.heap.size + 1 + 1, 0, none⟩) (by show w.heap.size ≤ w.heap.size + 1 + 1; omega) _
 simp [Leaves, settle, results, Tryz.results10, go_sem, z0, z1, z2, z3, a5, a6]
 exact ⟨none, 0, rfl, ⟨ExprsAt.nil _ _, fun _ => rfl⟩, hB9⟩
end Go.Proofs.YtplkphihmfhciaaGreatDoor

/- Parse, where it reads an expression. -/
namespace Go.Proofs.YtplkphihmfhciaaGreatDoor
open Go Go.RowKit Go.Lib Go.Shelf WM TM EM

theorem vx_of_z {b : Nat} {W : World} (z : Zx b W) (e : Ex) (so : Option Addr) (cap : Nat) : Vx b e so cap ((((W.setCell ⟨b, 0, none⟩ (.int .i64 e.op)).setCell ⟨b, 1, none⟩ (.int .i64 e.n)).setCell ⟨b, 2, none⟩ (.string (str e.s))).setCell ⟨b, 3, none⟩ (.slice so e.args.length cap)) := by
 refine ⟨st4_0 z _ _ _ _, st4_1 z _ _ _ _, st4_2 z _ _ _ _, st4_3 z _ _ _ _, fun j => ?_⟩
 rw [World.frozen?_setCell, World.frozen?_setCell, World.frozen?_setCell, World.frozen?_setCell]; exact z.fz j
theorem vx_of_v {b : Nat} {W : World} {e1 : Ex} {so1 : Option Addr} {cap1 : Nat} (v : Vx b e1 so1 cap1 W) (e : Ex) (so : Option Addr) (cap : Nat) : Vx b e so cap ((((W.setCell ⟨b, 0, none⟩ (.int .i64 e.op)).setCell ⟨b, 1, none⟩ (.int .i64 e.n)).setCell ⟨b, 2, none⟩ (.string (str e.s))).setCell ⟨b, 3, none⟩ (.slice so e.args.length cap)) := by
 obtain ⟨v0, v1, v2, v3, vf⟩ := v
 refine ⟨?_, ?_, ?_, ?_, fun j => ?_⟩
 ·simp [go_sem, v0, v1, v2, v3]
 ·simp [go_sem, v0, v1, v2, v3]
 ·simp [go_sem, v0, v1, v2, v3]
 ·simp [go_sem, v0, v1, v2, v3]
 ·rw [World.frozen?_setCell, World.frozen?_setCell, World.frozen?_setCell, World.frozen?_setCell]; exact vf j
theorem last_S {b4 b5 b6 p : Nat} {e : Ex} {so : Option Addr} {cap : Nat} {W : World} {x y z : Value} (v : Vx b4 e so cap W) (cp : W.cell? ⟨p, 1, none⟩ = some x) (h1 : b4 ≠ b5) (h2 : b4 ≠ b6) (h3 : p ≠ b4) (h4 : p ≠ b5) (h5 : p ≠ b6) :
  (Vx b4 e so cap ((((W.setCell ⟨b4, 0, none⟩ (.int .i64 e.op)).setCell ⟨b4, 1, none⟩ (.int .i64 e.n)).setCell ⟨b4, 2, none⟩ (.string (str e.s))).setCell ⟨b4, 3, none⟩ (.slice so e.args.length cap)).drew ∧ ((((W.setCell ⟨b4, 0, none⟩ (.int .i64 e.op)).setCell ⟨b4, 1, none⟩ (.int .i64 e.n)).setCell ⟨b4, 2, none⟩ (.string (str e.s))).setCell ⟨b4, 3, none⟩ (.slice so e.args.length cap)).drew.cell? ⟨p, 1, none⟩ = some x) ∧
  (Vx b4 e so cap (((((W.setCell ⟨b4, 0, none⟩ (.int .i64 e.op)).setCell ⟨b4, 1, none⟩ (.int .i64 e.n)).setCell ⟨b4, 2, none⟩ (.string (str e.s))).setCell ⟨b4, 3, none⟩ (.slice so e.args.length cap)).setCell ⟨b5, 0, none⟩ y).drew ∧ (((((W.setCell ⟨b4, 0, none⟩ (.int .i64 e.op)).setCell ⟨b4, 1, none⟩ (.int .i64 e.n)).setCell ⟨b4, 2, none⟩ (.string (str e.s))).setCell ⟨b4, 3, none⟩ (.slice so e.args.length cap)).setCell ⟨b5, 0, none⟩ y).drew.cell? ⟨p, 1, none⟩ = some x) ∧
  (Vx b4 e so cap ((((((W.setCell ⟨b4, 0, none⟩ (.int .i64 e.op)).setCell ⟨b4, 1, none⟩ (.int .i64 e.n)).setCell ⟨b4, 2, none⟩ (.string (str e.s))).setCell ⟨b4, 3, none⟩ (.slice so e.args.length cap)).setCell ⟨b5, 0, none⟩ y).setCell ⟨b6, 0, none⟩ z).drew ∧ ((((((W.setCell ⟨b4, 0, none⟩ (.int .i64 e.op)).setCell ⟨b4, 1, none⟩ (.int .i64 e.n)).setCell ⟨b4, 2, none⟩ (.string (str e.s))).setCell ⟨b4, 3, none⟩ (.slice so e.args.length cap)).setCell ⟨b5, 0, none⟩ y).setCell ⟨b6, 0, none⟩ z).drew.cell? ⟨p, 1, none⟩ = some x) := by
 have v1 := vx_of_v v e so cap
 have c1 : ((((W.setCell ⟨b4, 0, none⟩ (.int .i64 e.op)).setCell ⟨b4, 1, none⟩ (.int .i64 e.n)).setCell ⟨b4, 2, none⟩ (.string (str e.s))).setCell ⟨b4, 3, none⟩ (.slice so e.args.length cap)).cell? ⟨p, 1, none⟩ = some x :=
  (World.cell?_of_block (a := ⟨p, 1, none⟩) (by rw [Below.heap_setCell _ _ _ p h3, Below.heap_setCell _ _ _ p h3, Below.heap_setCell _ _ _ p h3, Below.heap_setCell _ _ _ p h3])).trans cp
 generalize (((W.setCell ⟨b4, 0, none⟩ (.int .i64 e.op)).setCell ⟨b4, 1, none⟩ (.int .i64 e.n)).setCell ⟨b4, 2, none⟩ (.string (str e.s))).setCell ⟨b4, 3, none⟩ (.slice so e.args.length cap) = A at v1 c1 ⊢
 have v2 := v1.blk (Below.heap_setCell A ⟨b5, 0, none⟩ y b4 h1)
 have c2 := (World.cell?_of_block (a := ⟨p, 1, none⟩) (Below.heap_setCell A ⟨b5, 0, none⟩ y p h4)).trans c1
 generalize A.setCell ⟨b5, 0, none⟩ y = B at v2 c2 ⊢
 have v3 := v2.blk (Below.heap_setCell B ⟨b6, 0, none⟩ z b4 h2)
 have c3 := (World.cell?_of_block (a := ⟨p, 1, none⟩) (Below.heap_setCell B ⟨b6, 0, none⟩ z p h5)).trans c2
 exact ⟨⟨v1.below (bdr (bref _)), keepc (bdr (bref _)) c1⟩, ⟨v2.below (bdr (bref _)), keepc (bdr (bref _)) c2⟩, ⟨v3.below (bdr (bref _)), keepc (bdr (bref _)) c3⟩⟩
theorem Bo.blk {b : Nat} {v : Value} {W W' : World} (h : Bo b v W) (hs : W'.heap[b]? = W.heap[b]?) : Bo b v W' :=
 ⟨(World.cell?_of_block (a := ⟨b, 0, none⟩) hs).trans h.1, (World.frozen?_of_block (a := ⟨b, 0, none⟩) hs).trans h.2⟩
theorem Bo.lt {b : Nat} {v : Value} {W : World} (h : Bo b v W) : b < W.heap.size := World.block_lt_of_cell? W _ h.1
theorem Bo.below {b : Nat} {v : Value} {W W' : World} (h : Bo b v W) (k : Below W.heap.size W W') : Bo b v W' := h.blk (k.block b h.lt)
theorem Bo.kp {b pb : Nat} {v : Value} {W W' : World} (h : Bo b v W) (k : Kp pb W W') (hne : b ≠ pb) : Bo b v W' := h.blk (k.keeps b h.lt hne)
set_option maxRecDepth 100000 in
set_option maxHeartbeats 4000000 in
theorem mparse_okv (ao : Option Addr) (c : Nat) (l : List Tok) (k0 : Nat) (hk0 : k0 ≤ l.length) (w : World) (hG : Gf w) (hS : Es w) (hT : TokensAt ao l w) (hlen : l.length ≤ 1000000) (htx : ∀ t ∈ l, t.2.2.length ≤ 1000000) (e : Ex) (q : Nat) (m : List Tok) (hE : E 0 (l.drop k0) (.ok e q m)) (hv : vE e ≠ 0) :
  Calls Tryz.prog 10 #[.slice ao l.length c, .int .i64 (k0 : Int)] w fun r w' => ∃ so cap, r = .returned (.tuple #[vx E0 so cap, .int .i64 (k0 : Int), .int .i64 (vE e)]) ∧ Lies (E0, so, cap) w' ∧ Below w.heap.size w w' := by
 have hmf : ∀ (fn : Fn) (first cap : Array Value) (w : World), (Instr.makeFunc fn first cap).run Tryz.prog w = .ok (.func fn first cap) w := fun _ _ _ _ => rfl
 obtain ⟨n, hn⟩ := hE
 have hg : Ga w (w.heap.size + 1 + 1 + 1) ao c l := ⟨hG, hS, hT, by omega, hlen, htx⟩
 have CE0 := (parser_all w (w.heap.size + 1 + 1 + 1) ao c l (Lib.hid hg) n).1
 have EX := Lib.hid (fun W h => CE0 0 k0 W _ (by omega) h hn)
 have hr1 : ¬ ((k0 : Int) < 0) := by omega
 have hr2 : ¬ (((l.length : Nat) : Int) < (k0 : Int)) := by omega
 have HGf := Lib.hid hG
 have HK0 := Lib.hid hk0
 have MV := Lib.hid (fun so cap W (hW : Below w.heap.size w W) (hL : Lies (e, so, cap) W) => mvalidate e so cap W (hG.keep hW).1 hL)
 clear CE0 hg hG hS hT htx hn
 go_enter_defers Tryz.func10, Tryz.ntmps10
 go_wp2_with fail
 refine (EX.out _ (pU_pa w ao c l k0 hk0)).mono ?_
 rintro r W1 ⟨k', so, cap, hm, rfl, hp, kv, xa, hc⟩
 have hz := pU_z w ao l.length c k0
 have z4 := hz.1.kp kv (by omega)
 have b5 := hz.2.1.kp kv (by omega)
 have b6 := hz.2.2.kp kv (by omega)
 have hB := kv.below (pU_pa w ao c l k0 hk0).b (Nat.le_refl _) (by omega)
 have hU := hz.2.2.lt
 have xa2 := (((xa.set (show w.heap.size < (pU w ao l.length c k0).heap.size by omega) 0 (.int .i64 e.op)).set (show w.heap.size < (pU w ao l.length c k0).heap.size by omega) 1 (.int .i64 e.n)).set (show w.heap.size < (pU w ao l.length c k0).heap.size by omega) 2 (.string (str e.s))).set (show w.heap.size < (pU w ao l.length c k0).heap.size by omega) 3 (.slice so e.args.length cap)
 have hbl := ((((Below.refl w.heap.size W1).setCell (p := ⟨w.heap.size, 0, none⟩) (Nat.le_refl _) (.int .i64 e.op)).setCell (p := ⟨w.heap.size, 1, none⟩) (Nat.le_refl _) (.int .i64 e.n)).setCell (p := ⟨w.heap.size, 2, none⟩) (Nat.le_refl _) (.string (str e.s))).setCell (p := ⟨w.heap.size, 3, none⟩) (Nat.le_refl _) (.slice so e.args.length cap)
 have hB2 : Below w.heap.size w ((((W1.setCell ⟨w.heap.size, 0, none⟩ (.int .i64 e.op)).setCell ⟨w.heap.size, 1, none⟩ (.int .i64 e.n)).setCell ⟨w.heap.size, 2, none⟩ (.string (str e.s))).setCell ⟨w.heap.size, 3, none⟩ (.slice so e.args.length cap)) := hB.trans hbl
 have v4 := vx_of_z z4 e so cap
 have hne : ∀ q, q ≠ w.heap.size → ((((W1.setCell ⟨w.heap.size, 0, none⟩ (.int .i64 e.op)).setCell ⟨w.heap.size, 1, none⟩ (.int .i64 e.n)).setCell ⟨w.heap.size, 2, none⟩ (.string (str e.s))).setCell ⟨w.heap.size, 3, none⟩ (.slice so e.args.length cap)).heap[q]? = W1.heap[q]? := fun q hq => by
  rw [Below.heap_setCell _ _ _ q hq, Below.heap_setCell _ _ _ q hq, Below.heap_setCell _ _ _ q hq, Below.heap_setCell _ _ _ q hq]
 have c5 := b5.blk (hne _ (by omega))
 have c6 := b6.blk (hne _ (by omega))
 have cp : ((((W1.setCell ⟨w.heap.size, 0, none⟩ (.int .i64 e.op)).setCell ⟨w.heap.size, 1, none⟩ (.int .i64 e.n)).setCell ⟨w.heap.size, 2, none⟩ (.string (str e.s))).setCell ⟨w.heap.size, 3, none⟩ (.slice so e.args.length cap)).cell? ⟨w.heap.size + 1 + 1 + 1, 1, none⟩ = some (.int .i64 (k' : Int)) := (World.cell?_of_block (a := ⟨w.heap.size + 1 + 1 + 1, 1, none⟩) (hne (w.heap.size + 1 + 1 + 1) (by omega))).trans hp.c1
 have hlen2 : l.length - m.length = k' := by rw [hm]; exact drop_len hp.le
 unfold vx
 obtain ⟨z0, z1, z2, z3, fz⟩ := z4
 have HXA := Lib.hid xa2
 have HC := Lib.hid hc
 have HB2 := Lib.hid hB2
 have V4 := Lib.hid v4
 have C5 := Lib.hid c5
 have C6 := Lib.hid c6
 have CPx := Lib.hid cp
 have HL2 := Lib.hid hlen2
 clear EX hr1 hr2 hp kv xa hc hz b5 b6 hB xa2 hbl hB2 hne v4 c5 c6 cp hlen2 hm hU hlen
 go_wp2_with fail
 refine (MV.out so cap _ HB2.out ⟨HXA.out.ex, HC.out⟩).mono ?_
 rintro r W3 ⟨rfl, hb3⟩
 have V3 := Lib.hid (V4.out.below hb3)
 have D5 := Lib.hid (C5.out.below hb3)
 have D6 := Lib.hid (C6.out.below hb3)
 have CP3 := Lib.hid (keepc hb3 CPx.out)
 have XA3 := Lib.hid (HXA.out.below hb3)
 have HB3 := Lib.hid (btr HB2.out hb3)
 clear hb3 z0 z1 z2 z3 fz V4 C5 C6 CPx HXA HB2 MV
 obtain ⟨v0, v1, v2, v3, vf⟩ := V3.out
 obtain ⟨x5, f5⟩ := D5.out
 obtain ⟨x6, f6⟩ := D6.out
 obtain ⟨V, hV⟩ : ∃ V, vE e = V := ⟨_, rfl⟩
 have HV9 := Lib.hid hV
 rw [hV] at hv
 rw [hV]
 clear hV
 have hvb : (V == 0) = false := by rw [beq_eq_false_iff_ne]; exact hv
 go_wp2_with fail
 clear v0 v1 v2 v3 vf x5 f5 x6 f6
 have n1 : w.heap.size + 1 + 1 ≠ w.heap.size := by omega
 have v3x := V3.out.blk (Below.heap_setCell W3 ⟨w.heap.size + 1 + 1, 0, none⟩ (.int .i64 V) w.heap.size (show w.heap.size ≠ w.heap.size + 1 + 1 by omega))
 have d5 := D5.out.blk (Below.heap_setCell W3 ⟨w.heap.size + 1 + 1, 0, none⟩ (.int .i64 V) (w.heap.size + 1) (show w.heap.size + 1 ≠ w.heap.size + 1 + 1 by omega))
 have d6 : Bo (w.heap.size + 1 + 1) (.int .i64 V) (W3.setCell ⟨w.heap.size + 1 + 1, 0, none⟩ (.int .i64 V)) := ⟨World.cell?_setCell_same' _ _ _ (by rw [D6.out.1]; rfl), by rw [World.frozen?_setCell]; exact D6.out.2⟩
 have hB4 : Below w.heap.size w (W3.setCell ⟨w.heap.size + 1 + 1, 0, none⟩ (.int .i64 V)) := HB3.out.setCell (p := ⟨w.heap.size + 1 + 1, 0, none⟩) (by show w.heap.size ≤ w.heap.size + 1 + 1; omega) _
 generalize W3.setCell ⟨w.heap.size + 1 + 1, 0, none⟩ (.int .i64 V) = W4 at v3x d5 d6 hB4 ⊢
 refine wp_region_noPanic ?_
 refine wp_region_held_drew (S := (fun W => W.cell? ⟨w.heap.size + 1 + 1, 0, none⟩ = some (.int .i64 V))) (by kernel_rfl) (keepc (bdr (bref _)) d6.1) (fun hH0 => ?_)
 refine wpAnyH_take (i := 0) (oi := _) (v := ?_) rfl (by kernel_rfl) (by kernel_rfl) (by kernel_rfl) (fun _ _ _ h => h) (Or.inl ⟨?_, ?_⟩) hH0 ?_
 rotate_left
 ·kernel_rfl
 ·(intro W' hSw; have f0 := hSw; go_simp; (try with_reducible rfl))
 (try simp only [List.getElem_toArray])
 (try simp only [List.getElem_cons_succ])
 (try simp only [List.getElem_cons_zero])
 (try simp only [Act.put])
 (try simp only [List.setIfInBounds_toArray])
 (try simp only [List.set_cons_succ])
 (try simp only [List.set_cons_zero])
 refine wpAnyH_take (i := 1) (oi := _) (v := ?_) rfl (by kernel_rfl) (by kernel_rfl) (by kernel_rfl) (fun _ _ _ h => h) (Or.inl ⟨?_, ?_⟩) hH0 ?_
 rotate_left
 ·kernel_rfl
 ·(intro W' hSw; have f0 := hSw; go_simp; (try with_reducible rfl))
 (try simp only [List.getElem_toArray])
 (try simp only [List.getElem_cons_succ])
 (try simp only [List.getElem_cons_zero])
 (try simp only [Act.put])
 (try simp only [List.setIfInBounds_toArray])
 (try simp only [List.set_cons_succ])
 (try simp only [List.set_cons_zero])
 refine wpAnyH_take (i := 2) (oi := _) (v := ?_) rfl (by kernel_rfl) (by kernel_rfl) (by kernel_rfl) (fun _ _ _ h => h) (Or.inl ⟨?_, ?_⟩) hH0 ?_
 rotate_left
 ·kernel_rfl
 ·(intro W' hSw; have f0 := hSw; go_simp; (try with_reducible rfl))
 (try simp only [List.getElem_toArray])
 (try simp only [List.getElem_cons_succ])
 (try simp only [List.getElem_cons_zero])
 (try simp only [Act.put])
 (try simp only [List.setIfInBounds_toArray])
 (try simp only [List.set_cons_succ])
 (try simp only [List.set_cons_zero])
 refine wpAnyH_ready (rs := [3]) (by kernel_rfl) (by simp) ?_
 refine AllReadyH.cons (o := _) rfl (fun K hK => ?_) AllReadyH.nil
 obtain ⟨v0, v1, v2, v3, vf⟩ := v3x
 obtain ⟨x5, f5⟩ := d5
 obtain ⟨x6, f6⟩ := d6
 go_simp
 refine hK.out _ _ (by simp [go_sem, x6]) (fun hH1 => ?_)
 clear hK K
 (try simp only [List.getElem_toArray])
 (try simp only [List.getElem_cons_succ])
 (try simp only [List.getElem_cons_zero])
 (try simp only [Act.put])
 (try simp only [List.setIfInBounds_toArray])
 (try simp only [List.set_cons_succ])
 (try simp only [List.set_cons_zero])
 refine wpAnyH_ready (rs := [4]) (by kernel_rfl) (by simp) ?_
 refine AllReadyH.cons (o := _) rfl (fun K hK => ?_) AllReadyH.nil
 go_simp
 refine hK.out _ _ (by simp [go_sem, x6]) (fun hH2 => ?_)
 clear hK K
 (try simp only [List.getElem_toArray])
 (try simp only [List.getElem_cons_succ])
 (try simp only [List.getElem_cons_zero])
 (try simp only [Act.put])
 (try simp only [List.setIfInBounds_toArray])
 (try simp only [List.set_cons_succ])
 (try simp only [List.set_cons_zero])
 refine wpAnyH_ready (rs := [5]) (by kernel_rfl) (by simp) ?_
 refine AllReadyH.cons (o := _) rfl (fun K hK => ?_) AllReadyH.nil
 go_simp
 refine hK.out _ _ (by simp [go_sem, x6]) (fun hH3 => ?_)
 clear hK K
 (try simp only [List.getElem_toArray])
 (try simp only [List.getElem_cons_succ])
 (try simp only [List.getElem_cons_zero])
 (try simp only [Act.put])
 (try simp only [List.setIfInBounds_toArray])
 (try simp only [List.set_cons_succ])
 (try simp only [List.set_cons_zero])
 refine wpAnyH_done (by kernel_rfl) ?_ _
 refine NoPanic.normal ?_
 go_wp2_with fail
 refine leaves_cons (f := 28) (args := #[.pointer (some ⟨w.heap.size, 0, none⟩), .pointer (some ⟨w.heap.size + 1, 0, none⟩), .pointer (some ⟨w.heap.size + 1 + 1, 0, none⟩)]) (by simp) (by simp [go_sem]) ?_
 refine (mcatch_idle _ _ _ _).mono ?_
 rintro e9 u9 w9 ⟨rfl, rfl, rfl⟩
 have hB9 : Below w.heap.size w ((((((W4.setCell ⟨w.heap.size, 0, none⟩ (.int .i64 0)).setCell ⟨w.heap.size, 1, none⟩ (.int .i64 0)).setCell ⟨w.heap.size, 2, none⟩ (.string ⟨#[]⟩)).setCell ⟨w.heap.size, 3, none⟩ (.slice none 0 0)).setCell ⟨w.heap.size + 1, 0, none⟩ (.int .i64 (k0 : Int))).setCell ⟨w.heap.size + 1 + 1, 0, none⟩ (.int .i64 V)).drew :=
  bdr ((((((hB4.setCell (p := ⟨w.heap.size, 0, none⟩) (Nat.le_refl _) _).setCell (p := ⟨w.heap.size, 1, none⟩) (Nat.le_refl _) _).setCell (p := ⟨w.heap.size, 2, none⟩) (Nat.le_refl _) _).setCell (p := ⟨w.heap.size, 3, none⟩) (Nat.le_refl _) _).setCell (p := ⟨w.heap.size + 1, 0, none⟩) (by show w.heap.size ≤ w.heap.size + 1; omega) _).setCell (p := ⟨w.heap.size + 1 + 1, 0, none⟩) (by show w.heap.size ≤ w.heap.size + 1 + 1; omega) _)
 simp [Leaves, settle, results, Tryz.results10, go_sem, v0, v1, v2, v3, x5, x6]
 exact ⟨none, 0, ⟨rfl, HV9.out.symm⟩, ⟨ExprsAt.nil _ _, fun _ => rfl⟩, hB9⟩
set_option maxRecDepth 100000 in
set_option maxHeartbeats 4000000 in
theorem mparse_ok0 (ao : Option Addr) (c : Nat) (l : List Tok) (k0 : Nat) (hk0 : k0 ≤ l.length) (w : World) (hG : Gf w) (hS : Es w) (hT : TokensAt ao l w) (hlen : l.length ≤ 1000000) (htx : ∀ t ∈ l, t.2.2.length ≤ 1000000) (e : Ex) (q : Nat) (m : List Tok) (hE : E 0 (l.drop k0) (.ok e q m)) (hv : vE e = 0) :
  Calls Tryz.prog 10 #[.slice ao l.length c, .int .i64 (k0 : Int)] w fun r w' => ∃ so cap, r = .returned (.tuple #[vx e so cap, .int .i64 ((l.length - m.length : Nat) : Int), .int .i64 0]) ∧ Lies (e, so, cap) w' ∧ Below w.heap.size w w' := by
 have hmf : ∀ (fn : Fn) (first cap : Array Value) (w : World), (Instr.makeFunc fn first cap).run Tryz.prog w = .ok (.func fn first cap) w := fun _ _ _ _ => rfl
 obtain ⟨n, hn⟩ := hE
 have hg : Ga w (w.heap.size + 1 + 1 + 1) ao c l := ⟨hG, hS, hT, by omega, hlen, htx⟩
 have CE0 := (parser_all w (w.heap.size + 1 + 1 + 1) ao c l (Lib.hid hg) n).1
 have EX := Lib.hid (fun W h => CE0 0 k0 W _ (by omega) h hn)
 have hr1 : ¬ ((k0 : Int) < 0) := by omega
 have hr2 : ¬ (((l.length : Nat) : Int) < (k0 : Int)) := by omega
 have HGf := Lib.hid hG
 have HK0 := Lib.hid hk0
 have MV := Lib.hid (fun so cap W (hW : Below w.heap.size w W) (hL : Lies (e, so, cap) W) => mvalidate e so cap W (hG.keep hW).1 hL)
 clear CE0 hg hG hS hT htx hn
 go_enter_defers Tryz.func10, Tryz.ntmps10
 go_wp2_with fail
 refine (EX.out _ (pU_pa w ao c l k0 hk0)).mono ?_
 rintro r W1 ⟨k', so, cap, hm, rfl, hp, kv, xa, hc⟩
 have hz := pU_z w ao l.length c k0
 have z4 := hz.1.kp kv (by omega)
 have b5 := hz.2.1.kp kv (by omega)
 have b6 := hz.2.2.kp kv (by omega)
 have hB := kv.below (pU_pa w ao c l k0 hk0).b (Nat.le_refl _) (by omega)
 have hU := hz.2.2.lt
 have xa2 := (((xa.set (show w.heap.size < (pU w ao l.length c k0).heap.size by omega) 0 (.int .i64 e.op)).set (show w.heap.size < (pU w ao l.length c k0).heap.size by omega) 1 (.int .i64 e.n)).set (show w.heap.size < (pU w ao l.length c k0).heap.size by omega) 2 (.string (str e.s))).set (show w.heap.size < (pU w ao l.length c k0).heap.size by omega) 3 (.slice so e.args.length cap)
 have hbl := ((((Below.refl w.heap.size W1).setCell (p := ⟨w.heap.size, 0, none⟩) (Nat.le_refl _) (.int .i64 e.op)).setCell (p := ⟨w.heap.size, 1, none⟩) (Nat.le_refl _) (.int .i64 e.n)).setCell (p := ⟨w.heap.size, 2, none⟩) (Nat.le_refl _) (.string (str e.s))).setCell (p := ⟨w.heap.size, 3, none⟩) (Nat.le_refl _) (.slice so e.args.length cap)
 have hB2 : Below w.heap.size w ((((W1.setCell ⟨w.heap.size, 0, none⟩ (.int .i64 e.op)).setCell ⟨w.heap.size, 1, none⟩ (.int .i64 e.n)).setCell ⟨w.heap.size, 2, none⟩ (.string (str e.s))).setCell ⟨w.heap.size, 3, none⟩ (.slice so e.args.length cap)) := hB.trans hbl
 have v4 := vx_of_z z4 e so cap
 have hne : ∀ q, q ≠ w.heap.size → ((((W1.setCell ⟨w.heap.size, 0, none⟩ (.int .i64 e.op)).setCell ⟨w.heap.size, 1, none⟩ (.int .i64 e.n)).setCell ⟨w.heap.size, 2, none⟩ (.string (str e.s))).setCell ⟨w.heap.size, 3, none⟩ (.slice so e.args.length cap)).heap[q]? = W1.heap[q]? := fun q hq => by
  rw [Below.heap_setCell _ _ _ q hq, Below.heap_setCell _ _ _ q hq, Below.heap_setCell _ _ _ q hq, Below.heap_setCell _ _ _ q hq]
 have c5 := b5.blk (hne _ (by omega))
 have c6 := b6.blk (hne _ (by omega))
 have cp : ((((W1.setCell ⟨w.heap.size, 0, none⟩ (.int .i64 e.op)).setCell ⟨w.heap.size, 1, none⟩ (.int .i64 e.n)).setCell ⟨w.heap.size, 2, none⟩ (.string (str e.s))).setCell ⟨w.heap.size, 3, none⟩ (.slice so e.args.length cap)).cell? ⟨w.heap.size + 1 + 1 + 1, 1, none⟩ = some (.int .i64 (k' : Int)) := (World.cell?_of_block (a := ⟨w.heap.size + 1 + 1 + 1, 1, none⟩) (hne (w.heap.size + 1 + 1 + 1) (by omega))).trans hp.c1
 have hlen2 : l.length - m.length = k' := by rw [hm]; exact drop_len hp.le
 unfold vx
 obtain ⟨z0, z1, z2, z3, fz⟩ := z4
 have HXA := Lib.hid xa2
 have HC := Lib.hid hc
 have HB2 := Lib.hid hB2
 have V4 := Lib.hid v4
 have C5 := Lib.hid c5
 have C6 := Lib.hid c6
 have CPx := Lib.hid cp
 have HL2 := Lib.hid hlen2
 clear EX hr1 hr2 hp kv xa hc hz b5 b6 hB xa2 hbl hB2 hne v4 c5 c6 cp hlen2 hm hU hlen
 go_wp2_with fail
 refine (MV.out so cap _ HB2.out ⟨HXA.out.ex, HC.out⟩).mono ?_
 rintro r W3 ⟨rfl, hb3⟩
 have V3 := Lib.hid (V4.out.below hb3)
 have D5 := Lib.hid (C5.out.below hb3)
 have D6 := Lib.hid (C6.out.below hb3)
 have CP3 := Lib.hid (keepc hb3 CPx.out)
 have XA3 := Lib.hid (HXA.out.below hb3)
 have HB3 := Lib.hid (btr HB2.out hb3)
 clear hb3 z0 z1 z2 z3 fz V4 C5 C6 CPx HXA HB2 MV
 obtain ⟨v0, v1, v2, v3, vf⟩ := V3.out
 obtain ⟨x5, f5⟩ := D5.out
 obtain ⟨x6, f6⟩ := D6.out
 rw [hv]
 go_wp2_with fail
 clear v0 v1 v2 v3 vf x5 f5 x6 f6
 have n1 : w.heap.size + 1 + 1 ≠ w.heap.size := by omega
 have v3x := V3.out.blk (Below.heap_setCell W3 ⟨w.heap.size + 1 + 1, 0, none⟩ (.int .i64 0) w.heap.size (show w.heap.size ≠ w.heap.size + 1 + 1 by omega))
 have d5 := D5.out.blk (Below.heap_setCell W3 ⟨w.heap.size + 1 + 1, 0, none⟩ (.int .i64 0) (w.heap.size + 1) (show w.heap.size + 1 ≠ w.heap.size + 1 + 1 by omega))
 have d6 : Bo (w.heap.size + 1 + 1) (.int .i64 0) (W3.setCell ⟨w.heap.size + 1 + 1, 0, none⟩ (.int .i64 0)) := ⟨World.cell?_setCell_same' _ _ _ (by rw [D6.out.1]; rfl), by rw [World.frozen?_setCell]; exact D6.out.2⟩
 have cp4 := (World.cell?_of_block (a := ⟨w.heap.size + 1 + 1 + 1, 1, none⟩) (Below.heap_setCell W3 ⟨w.heap.size + 1 + 1, 0, none⟩ (.int .i64 0) (w.heap.size + 1 + 1 + 1) (show w.heap.size + 1 + 1 + 1 ≠ w.heap.size + 1 + 1 by omega))).trans CP3.out
 have hB4 : Below w.heap.size w (W3.setCell ⟨w.heap.size + 1 + 1, 0, none⟩ (.int .i64 0)) := HB3.out.setCell (p := ⟨w.heap.size + 1 + 1, 0, none⟩) (by show w.heap.size ≤ w.heap.size + 1 + 1; omega) _
 have xa4 := XA3.out.set (show w.heap.size + 1 + 1 < (pU w ao l.length c k0).heap.size by have := (pU_z w ao l.length c k0).2.2.lt; omega) 0 (.int .i64 0)
 generalize W3.setCell ⟨w.heap.size + 1 + 1, 0, none⟩ (.int .i64 0) = W4 at v3x d5 d6 cp4 hB4 xa4 ⊢
 have LS := Lib.hid (last_S (b5 := w.heap.size + 1) (b6 := w.heap.size + 1 + 1) (y := .int .i64 (k' : Int)) (z := .int .i64 0) v3x cp4 (by omega) (by omega) (by omega) (by omega) (by omega))
 refine wp_region_noPanic ?_
 refine wp_region_held_drew (S := (fun W => Vx w.heap.size e so cap W ∧ W.cell? ⟨w.heap.size + 1 + 1 + 1, 1, none⟩ = some (.int .i64 (k' : Int)))) (by kernel_rfl) ⟨v3x.below (bdr (bref _)), keepc (bdr (bref _)) cp4⟩ (fun hH0 => ?_)
 refine wpAnyH_take (i := 0) (oi := _) (v := ?_) rfl (by kernel_rfl) (by kernel_rfl) (by kernel_rfl) (fun _ _ _ h => h) (Or.inl ⟨?_, ?_⟩) hH0 ?_
 rotate_left
 ·kernel_rfl
 ·(intro W' hSw; obtain ⟨⟨f0, f1, f2, f3, f4⟩, f5⟩ := hSw; go_simp; (try with_reducible rfl))
 (try simp only [List.getElem_toArray])
 (try simp only [List.getElem_cons_succ])
 (try simp only [List.getElem_cons_zero])
 (try simp only [Act.put])
 (try simp only [List.setIfInBounds_toArray])
 (try simp only [List.set_cons_succ])
 (try simp only [List.set_cons_zero])
 refine wpAnyH_take (i := 1) (oi := _) (v := ?_) rfl (by kernel_rfl) (by kernel_rfl) (by kernel_rfl) (fun _ _ _ h => h) (Or.inl ⟨?_, ?_⟩) hH0 ?_
 rotate_left
 ·kernel_rfl
 ·(intro W' hSw; obtain ⟨⟨f0, f1, f2, f3, f4⟩, f5⟩ := hSw; go_simp; (try with_reducible rfl))
 (try simp only [List.getElem_toArray])
 (try simp only [List.getElem_cons_succ])
 (try simp only [List.getElem_cons_zero])
 (try simp only [Act.put])
 (try simp only [List.setIfInBounds_toArray])
 (try simp only [List.set_cons_succ])
 (try simp only [List.set_cons_zero])
 refine wpAnyH_take (i := 2) (oi := _) (v := ?_) rfl (by kernel_rfl) (by kernel_rfl) (by kernel_rfl) (fun _ _ _ h => h) (Or.inl ⟨?_, ?_⟩) hH0 ?_
 rotate_left
 ·kernel_rfl
 ·(intro W' hSw; obtain ⟨⟨f0, f1, f2, f3, f4⟩, f5⟩ := hSw; go_simp; (try with_reducible rfl))
 (try simp only [List.getElem_toArray])
 (try simp only [List.getElem_cons_succ])
 (try simp only [List.getElem_cons_zero])
 (try simp only [Act.put])
 (try simp only [List.setIfInBounds_toArray])
 (try simp only [List.set_cons_succ])
 (try simp only [List.set_cons_zero])
 refine wpAnyH_ready (rs := [3]) (by kernel_rfl) (by simp) ?_
 refine AllReadyH.cons (o := _) rfl (fun K hK => ?_) AllReadyH.nil
 obtain ⟨v0, v1, v2, v3, vf⟩ := v3x
 obtain ⟨x5, f5⟩ := d5
 obtain ⟨x6, f6⟩ := d6
 go_simp
 refine hK.out _ _ LS.out.1 (fun hH1 => ?_)
 clear hK K
 (try simp only [List.getElem_toArray])
 (try simp only [List.getElem_cons_succ])
 (try simp only [List.getElem_cons_zero])
 (try simp only [Act.put])
 (try simp only [List.setIfInBounds_toArray])
 (try simp only [List.set_cons_succ])
 (try simp only [List.set_cons_zero])
 refine wpAnyH_ready (rs := [4]) (by kernel_rfl) (by simp) ?_
 refine AllReadyH.cons (o := _) rfl (fun K hK => ?_) AllReadyH.nil
 go_simp
 refine hK.out _ _ LS.out.2.1 (fun hH2 => ?_)
 clear hK K
 (try simp only [List.getElem_toArray])
 (try simp only [List.getElem_cons_succ])
 (try simp only [List.getElem_cons_zero])
 (try simp only [Act.put])
 (try simp only [List.setIfInBounds_toArray])
 (try simp only [List.set_cons_succ])
 (try simp only [List.set_cons_zero])
 refine wpAnyH_ready (rs := [5]) (by kernel_rfl) (by simp) ?_
 refine AllReadyH.cons (o := _) rfl (fun K hK => ?_) AllReadyH.nil
 go_simp
 refine hK.out _ _ LS.out.2.2 (fun hH3 => ?_)
 clear hK K
 (try simp only [List.getElem_toArray])
 (try simp only [List.getElem_cons_succ])
 (try simp only [List.getElem_cons_zero])
 (try simp only [Act.put])
 (try simp only [List.setIfInBounds_toArray])
 (try simp only [List.set_cons_succ])
 (try simp only [List.set_cons_zero])
 refine wpAnyH_done (by kernel_rfl) ?_ _
 refine NoPanic.normal ?_
 go_wp2_with fail
 refine leaves_cons (f := 28) (args := #[.pointer (some ⟨w.heap.size, 0, none⟩), .pointer (some ⟨w.heap.size + 1, 0, none⟩), .pointer (some ⟨w.heap.size + 1 + 1, 0, none⟩)]) (by simp) (by simp [go_sem]) ?_
 refine (mcatch_idle _ _ _ _).mono ?_
 rintro e9 u9 w9 ⟨rfl, rfl, rfl⟩
 have hB9 : Below w.heap.size w ((((((W4.setCell ⟨w.heap.size, 0, none⟩ (.int .i64 e.op)).setCell ⟨w.heap.size, 1, none⟩ (.int .i64 e.n)).setCell ⟨w.heap.size, 2, none⟩ (.string (str e.s))).setCell ⟨w.heap.size, 3, none⟩ (.slice so e.args.length cap)).setCell ⟨w.heap.size + 1, 0, none⟩ (.int .i64 (k' : Int))).setCell ⟨w.heap.size + 1 + 1, 0, none⟩ (.int .i64 0)).drew :=
  bdr ((((((hB4.setCell (p := ⟨w.heap.size, 0, none⟩) (Nat.le_refl _) _).setCell (p := ⟨w.heap.size, 1, none⟩) (Nat.le_refl _) _).setCell (p := ⟨w.heap.size, 2, none⟩) (Nat.le_refl _) _).setCell (p := ⟨w.heap.size, 3, none⟩) (Nat.le_refl _) _).setCell (p := ⟨w.heap.size + 1, 0, none⟩) (by show w.heap.size ≤ w.heap.size + 1; omega) _).setCell (p := ⟨w.heap.size + 1 + 1, 0, none⟩) (by show w.heap.size ≤ w.heap.size + 1 + 1; omega) _)
 have hU9 := (pU_z w ao l.length c k0).2.2.lt
 have xa9 := ((((((xa4.set (show w.heap.size < _ from (by omega : w.heap.size < (pU w ao l.length c k0).heap.size)) 0 (.int .i64 e.op)).set (show w.heap.size < _ from (by omega : w.heap.size < (pU w ao l.length c k0).heap.size)) 1 (.int .i64 e.n)).set (show w.heap.size < _ from (by omega : w.heap.size < (pU w ao l.length c k0).heap.size)) 2 (.string (str e.s))).set (show w.heap.size < _ from (by omega : w.heap.size < (pU w ao l.length c k0).heap.size)) 3 (.slice so e.args.length cap)).set (show w.heap.size + 1 < _ from (by omega : w.heap.size + 1 < (pU w ao l.length c k0).heap.size)) 0 (.int .i64 (k' : Int))).set (show w.heap.size + 1 + 1 < _ from hU9) 0 (.int .i64 0)).below (bdr (bref _))
 have hL9 := HL2.out
 simp [Leaves, settle, results, Tryz.results10, go_sem, v0, v1, v2, v3, x5, x6]
 exact ⟨so, cap, ⟨rfl, by rw [hL9]⟩, ⟨xa9.ex, HC.out⟩, hB9⟩
end Go.Proofs.YtplkphihmfhciaaGreatDoor

/- Parse: out of range; all its answers. -/
namespace Go.Proofs.YtplkphihmfhciaaGreatDoor
open Go Go.RowKit Go.Lib Go.Shelf WM TM EM

set_option maxRecDepth 100000 in
set_option maxHeartbeats 4000000 in
theorem mparse_out (ao : Option Addr) (c : Nat) (l : List Tok) (z : Int) (hz : z < 0 ∨ (l.length : Int) < z) (w : World) :
  Calls Tryz.prog 10 #[.slice ao l.length c, .int .i64 z] w fun r w' => ∃ so cap, r = .returned (.tuple #[vx E0 so cap, .int .i64 z, .int .i64 2]) ∧ Lies (E0, so, cap) w' ∧ Below w.heap.size w w' := by
 have hmf : ∀ (fn : Fn) (first cap : Array Value) (w : World), (Instr.makeFunc fn first cap).run Tryz.prog w = .ok (.func fn first cap) w := fun _ _ _ _ => rfl
 by_cases h1 : z < 0
 ·clear hz
  go_enter_defers Tryz.func10, Tryz.ntmps10
  go_wp2_with fail
  have hB9 : Below w.heap.size w (((w.alloc (.cells #[.int .i64 0, .int .i64 0, .string ⟨#[]⟩, .slice none 0 0] 27)).alloc (.cells #[.int .i64 z] 3)).alloc (.cells #[.int .i64 2] 28)) := bal (bal (bal (bref w) _) _) _
  simp [bodyPostD, Leaves, settle, results, Tryz.results10, go_sem]
  exact ⟨none, 0, rfl, ⟨ExprsAt.nil _ _, fun _ => rfl⟩, hB9⟩
 ·have h2 := hz.resolve_left h1
  clear hz
  go_enter_defers Tryz.func10, Tryz.ntmps10
  go_wp2_with fail
  have hB9 : Below w.heap.size w (((w.alloc (.cells #[.int .i64 0, .int .i64 0, .string ⟨#[]⟩, .slice none 0 0] 27)).alloc (.cells #[.int .i64 z] 3)).alloc (.cells #[.int .i64 2] 28)) := bal (bal (bal (bref w) _) _) _
  simp [bodyPostD, Leaves, settle, results, Tryz.results10, go_sem]
  exact ⟨none, 0, rfl, ⟨ExprsAt.nil _ _, fun _ => rfl⟩, hB9⟩
theorem drop_ge {l : List Tok} {k : Nat} (h : k ≤ l.length) : (l.drop k).length = l.length - k := List.length_drop
theorem mparse (ao : Option Addr) (c : Nat) (l : List Tok) (k0 : Nat) (hk0 : k0 ≤ l.length) (w : World) (hG : Gf w) (hS : Es w) (hT : TokensAt ao l w) (hlen : l.length ≤ 1000000) (htx : ∀ t ∈ l, t.2.2.length ≤ 1000000) (o : Out) (hE : E 0 (l.drop k0) o) :
  Calls Tryz.prog 10 #[.slice ao l.length c, .int .i64 (k0 : Int)] w fun r w' => ∃ so cap, r = .returned (.tuple #[vx (pO l k0 o).1 so cap, .int .i64 (pO l k0 o).2.1, .int .i64 (pO l k0 o).2.2]) ∧ Lies ((pO l k0 o).1, so, cap) w' ∧ Below w.heap.size w w' := by
 cases o with
 | bad m => exact mparse_bad ao c l k0 hk0 w hG hS hT hlen htx m hE
 | ok e q m =>
  by_cases hv : vE e = 0
  ·have hp : pO l k0 (.ok e q m) = (e, ((l.length - m.length : Nat) : Int), 0) := by simp only [pO, if_pos hv]
   rw [hp]
   exact mparse_ok0 ao c l k0 hk0 w hG hS hT hlen htx e q m hE hv
  ·have hp : pO l k0 (.ok e q m) = (E0, (k0 : Int), vE e) := by simp only [pO, if_neg hv]
   rw [hp]
   exact mparse_okv ao c l k0 hk0 w hG hS hT hlen htx e q m hE hv
end Go.Proofs.YtplkphihmfhciaaGreatDoor
