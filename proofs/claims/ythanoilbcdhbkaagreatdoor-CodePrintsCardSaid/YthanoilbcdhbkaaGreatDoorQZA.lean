/-
  Maps of the call's own whose keys are arrays of three numbers: entry by entry.
-/
import Derived.Test.YthanoilbcdhbkaaGreatDoorQG
import Derived.Test.YthanoilbcdhbkaaGreatDoorQEA
import Derived.Maps.OwnOps
import Derived.DeepKeys4
import Derived.WideKeyArr
namespace Go.Proofs.YthanoilbcdhbkaaGreatDoor
open Go Go.RowKit Go.Lib WM TM EM YM

theorem arrK : WideMaps.ArrKey Tryz.prog 130 3 3 := ⟨Tryz.underlying130, by kernel_rfl, by kernel_rfl, by kernel_rfl⟩
theorem lawK : Maps.Keyed Tryz.prog 130 := Maps.Keyed.of_law arrK.law
def k3V (k : K3) : Value := .agg #[.int .i64 k.1, .int .i64 k.2.1, .int .i64 k.2.2]
def k3B (k : K3) : Bool := (decide (0 ≤ k.1) && decide (k.1 ≤ 5)) && ((decide (0 ≤ k.2.1) && decide (k.2.1 ≤ 5)) && (decide (0 ≤ k.2.2) && decide (k.2.2 ≤ 5)))
theorem k3V_inj {k m : K3} (h : k3V k = k3V m) : k = m := by
 obtain ⟨a, b, c⟩ := k
 obtain ⟨d, e, f⟩ := m
 unfold k3V at h
 simp at h
 obtain ⟨rfl, rfl, rfl⟩ := h
 rfl
theorem wf_small {a : Int} (h : 0 ≤ a ∧ a ≤ 5) : (Lit.int .i64 a).wf = true := by
 have : a = 0 ∨ a = 1 ∨ a = 2 ∨ a = 3 ∨ a = 4 ∨ a = 5 := by omega
 rcases this with rfl | rfl | rfl | rfl | rfl | rfl <;> decide
theorem keyOf3 (k : K3) (h : k3B k = true) : ∃ l, keyOf Tryz.prog 130 (k3V k) = some l := by
 obtain ⟨a, b, c⟩ := k
 unfold k3B at h
 simp only [Bool.and_eq_true, decide_eq_true_eq] at h
 have wa := wf_small (a := a) (by omega)
 have wb := wf_small (a := b) (by omega)
 have wc := wf_small (a := c) (by omega)
 have hsz : ∃ m, Tryz.prog.types.size = m + 1 := by
  have : 0 < Tryz.prog.types.size := of_decide_eq_true (by kernel_rfl)
  exact ⟨Tryz.prog.types.size - 1, by omega⟩
 have hkt := arrK.keyType hsz
 have he := Tryz.underlying3
 obtain ⟨m, hm⟩ := hsz
 refine ⟨.string (keyBytes [.int .i64 a, .int .i64 b, .int .i64 c]), ?_⟩
 unfold keyOf k3V
 simp only [arrK.hu]
 rw [if_pos (by simp [hkt, Value.formed, arrK.hu, arrK.size]), hm]
 unfold Program.keyLits
 simp only [arrK.hu, Value.cells]
 rw [if_pos (by rw [arrK.size]; rfl), show List.range 3 = [0, 1, 2] from rfl, List.mapM_cons, List.mapM_cons, List.mapM_cons, List.mapM_nil]
 simp [arrK.one, Program.keyLits, he, wa, wb, wc]
def MapIs (w : World) (b : Nat) (L : List (K3 × Int)) : Prop :=
 ∃ es clock, w.heap[b]? = some (.map es clock) ∧ es.toList.map (fun e => (e.key, e.val)) = L.map (fun p => (k3V p.1, (.int .i64 p.2 : Value))) ∧ L.all (fun p => k3B p.1) = true ∧ (L.map Prod.fst).Nodup
theorem map_made (w : World) : MapIs (w.alloc (.map #[] 0)) w.heap.size [] := ⟨#[], 0, (MapKept.heap_alloc w _).1, rfl, rfl, List.nodup_nil⟩
theorem MapIs.lt {w : World} {b : Nat} {L : List (K3 × Int)} (h : MapIs w b L) : b < w.heap.size := by
 obtain ⟨es, clock, hb, _⟩ := h
 exact (Array.getElem?_eq_some_iff.1 hb).1
theorem MapIs.keep {w w' : World} {b : Nat} {L : List (K3 × Int)} (h : MapIs w b L) (hb : Below w.heap.size w w') : MapIs w' b L := by
 have hlt := h.lt
 obtain ⟨es, clock, h1, h2⟩ := h
 exact ⟨es, clock, (hb.block b hlt).trans h1, h2⟩
theorem MapIs.alloc {w : World} {b : Nat} {L : List (K3 × Int)} (h : MapIs w b L) (o : Obj) : MapIs (w.alloc o) b L := h.keep (bal (bref w) o)
theorem map_keys {es : List MapEntry} {L : List (K3 × Int)} (h : es.map (fun e => (e.key, e.val)) = L.map (fun p => (k3V p.1, (.int .i64 p.2 : Value)))) (hL : L.all (fun p => k3B p.1) = true) :
  ∀ e ∈ es, ∃ p ∈ L, e.key = k3V p.1 ∧ e.val = .int .i64 p.2 ∧ ∃ l, keyOf Tryz.prog 130 e.key = some l := by
 intro e he
 have h1 : (e.key, e.val) ∈ L.map (fun p => (k3V p.1, (.int .i64 p.2 : Value))) := by rw [← h]; exact List.mem_map.2 ⟨e, he, rfl⟩
 obtain ⟨p, hp, hpe⟩ := List.mem_map.1 h1
 simp only [Prod.mk.injEq] at hpe
 refine ⟨p, hp, hpe.1.symm, hpe.2.symm, ?_⟩
 rw [← hpe.1]
 exact keyOf3 p.1 (by simpa using List.all_eq_true.1 hL p hp)
theorem run_new {w : World} {b : Nat} {L : List (K3 × Int)} (h : MapIs w b L) (k : K3) (t : Int) (hk : k3B k = true) (hn : k ∉ L.map Prod.fst) :
  ∃ w', (Instr.mapUpdate 131 (.map (some b)) (k3V k) (.int .i64 t)).run Tryz.prog w = .ok () w' ∧ MapIs w' b (L ++ [(k, t)]) ∧ Below b w w' := by
 obtain ⟨es, clock, hb, hes, hL, hd⟩ := h
 obtain ⟨l, hl⟩ := keyOf3 k hk
 have hks := map_keys hes hL
 rcases lawK.find w hl es.toList (fun e he => (hks e he).elim fun p hp => hp.2.2.2) with ⟨h1, h2⟩ | ⟨j, e, h1, h2, h3⟩
 ·refine ⟨ChangeMaps.setBlock w b (.map (es.push ⟨k3V k, .int .i64 t, clock⟩) (clock + 1)), ?_, ⟨_, _, ChangeMaps.heap_setBlock_same hb _, ?_, ?_, ?_⟩, ?_⟩
  ·simp [Instr.mapUpdate, run_underlying Tryz.underlying131, MapKept.run_getObj_map hb, lawK.check w false hl, h1, MapKept.run_setObj_map _ hb, Result.andThen, ChangeMaps.setBlock]
  ·rw [Array.toList_push, List.map_append, hes, List.map_append]
   rfl
  ·rw [List.all_append, hL]
   simp [hk]
  ·rw [List.map_append, List.nodup_append]
   refine ⟨hd, by simp, ?_⟩
   intro a ha c hc e
   simp at hc
   subst hc
   subst e
   exact hn ha
  ·exact ⟨rfl, rfl, rfl, by simp [ChangeMaps.setBlock], fun i hi => ChangeMaps.heap_setBlock_other hb _ (by omega)⟩
 ·obtain ⟨p, hp, e1, _⟩ := hks e (List.mem_of_getElem? h2)
  exact absurd (List.mem_map.2 ⟨p, hp, k3V_inj (e1.symm.trans h3)⟩) hn
theorem run_look {w : World} {b : Nat} {L : List (K3 × Int)} (h : MapIs w b L) (k : K3) (hk : k3B k = true) :
  (Instr.lookup 131 (.map (some b)) (k3V k) true).run Tryz.prog w =
   .ok (.tuple #[.int .i64 ((((L.find? fun p => decide (p.1 = k)).map (·.2)).getD 0)), .bool ((L.find? fun p => decide (p.1 = k)).map (·.2)).isSome]) w := by
 obtain ⟨es, clock, hb, hes, hL, hd⟩ := h
 obtain ⟨l, hl⟩ := keyOf3 k hk
 have hks := map_keys hes hL
 rcases lawK.find w hl es.toList (fun e he => (hks e he).elim fun p hp => hp.2.2.2) with ⟨h1, h2⟩ | ⟨j, e, h1, h2, h3⟩
 ·have hn : (L.find? fun p => decide (p.1 = k)) = none := by
   rw [List.find?_eq_none]
   intro p hp hpk
   have hpk := of_decide_eq_true hpk
   have h4 : (k3V p.1, (.int .i64 p.2 : Value)) ∈ es.toList.map (fun e => (e.key, e.val)) := by rw [hes]; exact List.mem_map.2 ⟨p, hp, rfl⟩
   obtain ⟨e, he, hee⟩ := List.mem_map.1 h4
   simp only [Prod.mk.injEq] at hee
   exact h2 e he (by rw [hee.1, hpk])
  rw [hn]
  simp [Instr.lookup, run_underlying Tryz.underlying131, MapKept.run_getObj_map hb, lawK.check w _ hl, h1, Result.andThen]
 ·obtain ⟨p, hp, e1, e2, _⟩ := hks e (List.mem_of_getElem? h2)
  have hpk : p.1 = k := k3V_inj (e1.symm.trans h3)
  have hn : (L.find? fun p => decide (p.1 = k)) = some p := by
   clear hes hL hks
   induction L with
   | nil => cases hp
   | cons x L ih =>
    rw [List.map_cons, List.nodup_cons] at hd
    rcases List.mem_cons.1 hp with rfl | hp
    ·rw [List.find?_cons, decide_eq_true hpk]
    ·have hx : x.1 ≠ k := by rintro rfl; exact hd.1 (hpk ▸ List.mem_map_of_mem (f := Prod.fst) hp)
     rw [List.find?_cons, decide_eq_false hx]
     exact ih hd.2 hp
  rw [hn]
  simp [Instr.lookup, run_underlying Tryz.underlying131, MapKept.run_getObj_map hb, lawK.check w _ hl, h1, e2, Result.andThen]
theorem run_look_nil (w : World) (k : K3) (hk : k3B k = true) :
  (Instr.lookup 131 (.map none) (k3V k) true).run Tryz.prog w = .ok (.tuple #[.int .i64 0, .bool false]) w := by
 obtain ⟨l, hl⟩ := keyOf3 k hk
 rcases lawK.find w hl [] (fun e he => absurd he (List.not_mem_nil)) with ⟨h1, h2⟩ | ⟨j, e, h1, h2, h3⟩
 ·simp [Instr.lookup, run_underlying Tryz.underlying131, lawK.check w _ hl, h1, Result.andThen]
 ·simp at h2
end Go.Proofs.YthanoilbcdhbkaaGreatDoor
