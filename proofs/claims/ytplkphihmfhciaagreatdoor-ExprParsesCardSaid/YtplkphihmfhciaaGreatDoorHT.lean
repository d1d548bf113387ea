/-
  Expressions: contracts of the document's own token, Rank, sign, leaf, SameTokens; appending tokens.
-/
import Derived.Test.YtplkphihmfhciaaGreatDoorHV
import Derived.Test.YtplkphihmfhciaaGreatDoorEQ
import Derived.Test.YtplkphihmfhciaaGreatDoorHM
import Derived.OwnWalk
import Derived.ArgAppend
namespace Go.Proofs.YtplkphihmfhciaaGreatDoor
open Go Go.RowKit Go.Lib Go.Shelf WM TM EM

theorem res_tok {fn : Func} {p : Tmp} (h : fn.results = #[.cell p 44]) (tmps : Array Value) (w : World) (b : Nat) (hp : tmps.getD p undef = .pointer (some ⟨b, 0, none⟩)) (x0 x1 x2 : Value) (h0 : w.cell? ⟨b, 0, none⟩ = some x0) (h1 : w.cell? ⟨b, 1, none⟩ = some x1) (h2 : w.cell? ⟨b, 2, none⟩ = some x2) :
  (results fn tmps).run Tryz.prog w = .ok (.agg #[x0, x1, x2]) w := by
 rw [Array.getD_eq_getD_getElem?] at hp
 simp [results, h, hp, go_sem, h0, h1, h2]
theorem st3 {W : World} {b : Nat} {y0 y1 y2 : Value} (z0 : W.cell? ⟨b, 0, none⟩ = some y0) (z1 : W.cell? ⟨b, 1, none⟩ = some y1) (z2 : W.cell? ⟨b, 2, none⟩ = some y2) (x0 x1 x2 : Value) :
  (((W.setCell ⟨b, 0, none⟩ x0).setCell ⟨b, 1, none⟩ x1).setCell ⟨b, 2, none⟩ x2).cell? ⟨b, 0, none⟩ = some x0 ∧ (((W.setCell ⟨b, 0, none⟩ x0).setCell ⟨b, 1, none⟩ x1).setCell ⟨b, 2, none⟩ x2).cell? ⟨b, 1, none⟩ = some x1 ∧
  (((W.setCell ⟨b, 0, none⟩ x0).setCell ⟨b, 1, none⟩ x1).setCell ⟨b, 2, none⟩ x2).cell? ⟨b, 2, none⟩ = some x2 := by
 refine ⟨?_, ?_, ?_⟩ <;> simp [go_sem, z0, z1, z2]
set_option maxRecDepth 100000 in
theorem rtoken (k : Int) (X : ByteArray) (w : World) :
  Calls Tryz.prog 59 #[.int .i64 k, .string X] w fun r w' => r = .returned (.agg #[.int .i64 k, .int .i64 1, .string X]) ∧ Below w.heap.size w w' := by
 go_enter Tryz.func59, Tryz.ntmps59
 go_wp2_with fail
 refine bodyPost_ret (res_tok rfl _ _ _ rfl _ _ _ (by simp [go_sem]; rfl) (by simp [go_sem]; rfl) (by simp [go_sem]; rfl)) rfl ?_
 exact ⟨rfl, by first | exact bal (bref w) _ | (repeat (first | exact bref _ | refine bdr ?_ | refine bal ?_ _))⟩
set_option maxRecDepth 100000 in
set_option maxHeartbeats 2000000 in
theorem rrank (o : Int) (w : World) :
  Calls Tryz.prog 58 #[.int .i64 o] w fun r w' => r = .returned (.int .i64 (rk o : Nat)) ∧ w = w' := by
 by_cases hin : o ∈ ([19, 15, 14, 16, 10, 11, 12, 13, 5, 6, 7, 8, 9] : List Int)
 ·simp only [List.mem_cons, List.not_mem_nil, or_false] at hin
  rcases hin with rfl | rfl | rfl | rfl | rfl | rfl | rfl | rfl | rfl | rfl | rfl | rfl | rfl
  all_goals
   go_enter Tryz.func58, Tryz.ntmps58
   go_wp2_with fail
   go_ret
   exact ⟨rfl, rfl⟩
 ·simp only [List.mem_cons, List.not_mem_nil, or_false, not_or] at hin
  obtain ⟨h19, h15, h14, h16, h10, h11, h12, h13, h5, h6, h7, h8, h9⟩ := hin
  rw [show rk o = 8 by unfold rk; rw [if_neg h19, if_neg h15, if_neg h14, if_neg h16, if_neg (by omega), if_neg (by omega), if_neg (by omega), if_neg h9]]
  have g19 : (o == 19) = false := by rw [beq_eq_false_iff_ne]; exact h19
  have g15 : (o == 15) = false := by rw [beq_eq_false_iff_ne]; exact h15
  have g14 : (o == 14) = false := by rw [beq_eq_false_iff_ne]; exact h14
  have g16 : (o == 16) = false := by rw [beq_eq_false_iff_ne]; exact h16
  have g10 : (o == 10) = false := by rw [beq_eq_false_iff_ne]; exact h10
  have g11 : (o == 11) = false := by rw [beq_eq_false_iff_ne]; exact h11
  have g12 : (o == 12) = false := by rw [beq_eq_false_iff_ne]; exact h12
  have g13 : (o == 13) = false := by rw [beq_eq_false_iff_ne]; exact h13
  have g5 : (o == 5) = false := by rw [beq_eq_false_iff_ne]; exact h5
  have g6 : (o == 6) = false := by rw [beq_eq_false_iff_ne]; exact h6
  have g7 : (o == 7) = false := by rw [beq_eq_false_iff_ne]; exact h7
  have g8 : (o == 8) = false := by rw [beq_eq_false_iff_ne]; exact h8
  have g9 : (o == 9) = false := by rw [beq_eq_false_iff_ne]; exact h9
  clear h19 h15 h14 h16 h10 h11 h12 h13 h5 h6 h7 h8 h9
  go_enter Tryz.func58, Tryz.ntmps58
  go_wp2_with fail
  go_ret
  exact ⟨rfl, rfl⟩
set_option maxRecDepth 100000 in
set_option maxHeartbeats 4000000 in
theorem rsign (o : Int) (ho : o ∈ infs) (w : World) :
  Calls Tryz.prog 61 #[.int .i64 o] w fun r w' => r = .returned (.agg #[.int .i64 (word o).1, .int .i64 1, .string (str (word o).2)]) ∧ Below w.heap.size w w' := by
 have TK := Lib.hid (fun k X W => rtoken k X W)
 simp only [infs, List.mem_cons, List.not_mem_nil, or_false] at ho
 rcases ho with rfl | rfl | rfl | rfl | rfl | rfl | rfl | rfl | rfl | rfl
 all_goals
  go_enter Tryz.func61, Tryz.ntmps61
  go_wp2_with fail
  refine (TK.out _ _ _).mono ?_
  rintro r w1 ⟨rfl, hb1⟩
  have f0 := keepc hb1 (show (w.alloc (.cells #[.int .i64 0, .int .i64 0, .string ⟨#[]⟩] 44)).cell? ⟨w.heap.size, 0, none⟩ = some (.int .i64 0) by simp [go_sem])
  have f1 := keepc hb1 (show (w.alloc (.cells #[.int .i64 0, .int .i64 0, .string ⟨#[]⟩] 44)).cell? ⟨w.heap.size, 1, none⟩ = some (.int .i64 0) by simp [go_sem])
  have f2 := keepc hb1 (show (w.alloc (.cells #[.int .i64 0, .int .i64 0, .string ⟨#[]⟩] 44)).cell? ⟨w.heap.size, 2, none⟩ = some (.string ⟨#[]⟩) by simp [go_sem])
  have fz0 : w1.frozen? ⟨w.heap.size, 0, none⟩ = false := by rw [hb1.frozen (by simp)]; simp [go_sem]
  have fz1 : w1.frozen? ⟨w.heap.size, 1, none⟩ = false := by rw [hb1.frozen (by simp)]; simp [go_sem]
  have fz2 : w1.frozen? ⟨w.heap.size, 2, none⟩ = false := by rw [hb1.frozen (by simp)]; simp [go_sem]
  have HB1 := Lib.hid (btr (bal (bref w) _) hb1)
  clear hb1
  go_wp2_with fail
  refine bodyPost_ret (res_tok rfl _ _ _ rfl _ _ _ (st3 f0 f1 f2 _ _ _).1 (st3 f0 f1 f2 _ _ _).2.1 (st3 f0 f1 f2 _ _ _).2.2) rfl ?_
  refine ⟨rfl, ?_⟩
  exact ((HB1.out.setCell (p := ⟨w.heap.size, 0, none⟩) (Nat.le_refl _) _).setCell (p := ⟨w.heap.size, 1, none⟩) (Nat.le_refl _) _).setCell (p := ⟨w.heap.size, 2, none⟩) (Nat.le_refl _) _
end Go.Proofs.YtplkphihmfhciaaGreatDoor
