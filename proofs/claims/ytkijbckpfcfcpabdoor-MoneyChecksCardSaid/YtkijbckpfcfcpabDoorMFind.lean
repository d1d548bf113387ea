/-
  Contracts of package money's Find and Check, and of the document's own.
-/
import Derived.Test.YtkijbckpfcfcpabDoorMLives
import Derived.OwnWalk
namespace Go.Proofs.YtkijbckpfcfcpabDoor
open Go Go.RowKit Go.Lib WM

/-- Two cells of one block, not frozen. -/
def Own (W : World) (b : Nat) (x y : Value) : Prop := W.cell? ⟨b, 0, none⟩ = some x ∧ W.cell? ⟨b, 1, none⟩ = some y ∧ W.frozen? ⟨b, 0, none⟩ = false ∧ W.frozen? ⟨b, 1, none⟩ = false
theorem Own.keep {W w1 : World} {b : Nat} {x y : Value} (h : Own W b x y) (hb : Below W.heap.size W w1) : Own w1 b x y := by
  have hl := World.block_lt_of_cell? W _ h.1
  exact ⟨(hb.cell (p := ⟨b, 0, none⟩) hl).trans h.1, (hb.cell (p := ⟨b, 1, none⟩) hl).trans h.2.1, (hb.frozen (p := ⟨b, 0, none⟩) hl).trans h.2.2.1, (hb.frozen (p := ⟨b, 1, none⟩) hl).trans h.2.2.2⟩
theorem Own.new (W : World) (x y : Value) (t : TypeId) : Own (W.alloc (.cells #[x, y] t)) W.heap.size x y := by
  refine ⟨?_, ?_, ?_, ?_⟩ <;> simp [go_sem]
abbrev Cur := ByteArray × Int
def zeroC : Cur := (⟨#[]⟩, 0)
def encC (c : Cur) : Value := .agg #[.string c.1, .int .i64 c.2]
/-- The list lies there: two cells an element. -/
def CashAt (ao : Option Addr) (cs : List Cur) (w : World) : Prop := ∀ i, i < cs.length → ∃ b off, ao = some ⟨b, off, none⟩ ∧ b < w.heap.size ∧ w.cell? ⟨b, off + i * 2, none⟩ = some (.string (cs.getD i zeroC).1) ∧ w.cell? ⟨b, off + i * 2 + 1, none⟩ = some (.int .i64 (cs.getD i zeroC).2)
theorem CashAt.keep {ao : Option Addr} {cs : List Cur} {w w' : World} (h : CashAt ao cs w) (hb : Below w.heap.size w w') : CashAt ao cs w' := by
  intro i hi
  obtain ⟨b, off, e, hbw, c1, c2⟩ := h i hi
  exact ⟨b, off, e, by have := hb.size; omega, (hb.cell (p := ⟨b, off + i * 2, none⟩) hbw).trans c1, (hb.cell (p := ⟨b, off + i * 2 + 1, none⟩) hbw).trans c2⟩
def isC (code : ByteArray) (c : Cur) : Bool := c.1.toList == code.toList
def findC (cs : List Cur) (code : ByteArray) : Cur × Bool := match cs.find? (isC code) with
  | some c => (c, true)
  | none => (zeroC, false)

theorem take_snoc_c (l : List Cur) (k : Nat) (h : k < l.length) : l.take (k + 1) = l.take k ++ [l.getD k zeroC] := by
  rw [List.take_succ_eq_append_getElem h]
  simp [List.getD, h]
theorem find_step (cs : List Cur) (code : ByteArray) (k : Nat) (hk : k < cs.length) (h : (cs.take k).find? (isC code) = none) (hc : isC code (cs.getD k zeroC) = false) : (cs.take (k + 1)).find? (isC code) = none := by
  rw [take_snoc_c cs k hk, List.find?_append, h]
  simp only [List.find?_cons, hc, List.find?_nil]; rfl
theorem find_hit (cs : List Cur) (code : ByteArray) (k : Nat) (hk : k < cs.length) (h : (cs.take k).find? (isC code) = none) (hc : isC code (cs.getD k zeroC) = true) : findC cs code = (cs.getD k zeroC, true) := by
  have e : cs = cs.take (k + 1) ++ cs.drop (k + 1) := (List.take_append_drop _ _).symm
  have hf : cs.find? (isC code) = some (cs.getD k zeroC) := by
    conv => lhs; rw [e, take_snoc_c cs k hk]
    rw [List.find?_append, List.find?_append, h]
    simp only [List.find?_cons, hc]; rfl
  unfold findC; rw [hf]
theorem find_none (cs : List Cur) (code : ByteArray) (h : (cs.take cs.length).find? (isC code) = none) : findC cs code = (zeroC, false) := by
  rw [List.take_length] at h
  unfold findC; rw [h]
/-- The box of the result, while nothing is found. -/
def Box (w wr : World) : Prop := wr.cell? ⟨w.heap.size, 0, none⟩ = some (.string ⟨#[]⟩) ∧ wr.cell? ⟨w.heap.size, 1, none⟩ = some (.int .i64 0) ∧ wr.frozen? ⟨w.heap.size, 0, none⟩ = false ∧ wr.frozen? ⟨w.heap.size, 1, none⟩ = false ∧ Below w.heap.size w wr ∧ w.heap.size < wr.heap.size
theorem Box.al {w wr : World} (h : Box w wr) (o : Obj) : Box w (wr.alloc o) := by
  obtain ⟨h0, h1, h2, h3, h4, h5⟩ := h
  have hb : Below wr.heap.size wr (wr.alloc o) := bal (bref _) o
  exact ⟨(hb.cell (p := ⟨w.heap.size, 0, none⟩) h5).trans h0, (hb.cell (p := ⟨w.heap.size, 1, none⟩) h5).trans h1, (hb.frozen (p := ⟨w.heap.size, 0, none⟩) h5).trans h2, (hb.frozen (p := ⟨w.heap.size, 1, none⟩) h5).trans h3, btr h4 hb, by simp; omega⟩
theorem bset {w w' : World} (h : Below w.heap.size w w') {p : Addr} (hp : w.heap.size ≤ p.block) (v : Value) : Below w.heap.size w (w'.setCell p v) := h.setCell hp v

theorem Box.put {w wr : World} (h : Box w wr) (x y : Value) (o : Obj) :
    (((wr.setCell ⟨w.heap.size, 0, none⟩ x).setCell ⟨w.heap.size, 1, none⟩ y).alloc o).cell? ⟨w.heap.size, 0, none⟩ = some x ∧ (((wr.setCell ⟨w.heap.size, 0, none⟩ x).setCell ⟨w.heap.size, 1, none⟩ y).alloc o).cell? ⟨w.heap.size, 1, none⟩ = some y ∧ Below w.heap.size w (((wr.setCell ⟨w.heap.size, 0, none⟩ x).setCell ⟨w.heap.size, 1, none⟩ y).alloc o) := by
  obtain ⟨h0, h1, _, _, h4, h5⟩ := h
  have e1 : (wr.setCell ⟨w.heap.size, 0, none⟩ x).cell? ⟨w.heap.size, 1, none⟩ = some (.int .i64 0) := by
    rw [World.cell?_setCell_other _ _ _ _ (by intro c; injection c with _ c _; omega)]; exact h1
  have hs : ((wr.setCell ⟨w.heap.size, 0, none⟩ x).setCell ⟨w.heap.size, 1, none⟩ y).heap.size = wr.heap.size := by simp
  have hb := bal (bref ((wr.setCell ⟨w.heap.size, 0, none⟩ x).setCell ⟨w.heap.size, 1, none⟩ y)) o
  have hl : w.heap.size < ((wr.setCell ⟨w.heap.size, 0, none⟩ x).setCell ⟨w.heap.size, 1, none⟩ y).heap.size := by rw [hs]; exact h5
  refine ⟨?_, ?_, btr (bset (bset h4 (Nat.le_refl _) _) (Nat.le_refl _) _) hb⟩
  · rw [hb.cell (p := ⟨w.heap.size, 0, none⟩) hl, World.cell?_setCell_other _ _ _ _ (by intro c; injection c with _ c _; omega)]
    exact World.cell?_setCell_same _ _ _ h0
  · rw [hb.cell (p := ⟨w.heap.size, 1, none⟩) hl]
    exact World.cell?_setCell_same _ _ _ e1

set_option maxRecDepth 100000 in
set_option maxHeartbeats 4000000 in
theorem mfind (ao : Option Addr) (cap : Nat) (cs : List Cur) (code : ByteArray) (w : World) (hlen : cs.length ≤ 1000000) (hc : CashAt ao cs w) :
    Calls Tryd.prog 20 #[.slice ao cs.length cap, .string code] w fun e w' => e = .returned (.tuple #[encC (findC cs code).1, .bool (findC cs code).2]) ∧ Below w.heap.size w w' := by
  obtain ⟨R, hR⟩ : ∃ R, findC cs code = R := ⟨_, rfl⟩
  rw [hR]
  have HR := Lib.hid hR
  have HC := Lib.hid hc
  clear hR hc
  go_enter Tryd.func20, Tryd.ntmps20
  go_wp2_with fail
  go_loopw [10] (fun i wr => ∃ k : Nat, k ≤ cs.length ∧ i = .int .i64 k ∧ (cs.take k).find? (isC code) = none ∧ Box w wr) (fun i _ => cs.length - (RowKit.intOf i).toNat)
  case atStart => exact ⟨0, by omega, rfl, rfl, by simp [go_sem], by simp [go_sem], by simp [go_sem], by simp [go_sem], bal (bref _) _, by simp⟩
  case round =>
    obtain ⟨k, hk, rfl, hn, hX⟩ := hrel
    have HX := Lib.hid hX
    obtain ⟨r0, r1, f0, f1, hB, hlt0⟩ := hX
    have HN := Lib.hid hn; have HB := Lib.hid hB
    clear hn
    by_cases hlt : k < cs.length
    · obtain ⟨b, off, rfl, hbw, c0, c1⟩ := (HC.out.keep hB) k hlt
      obtain ⟨s, hs⟩ : ∃ s, (cs.getD k zeroC).1 = s := ⟨_, rfl⟩
      obtain ⟨d, hd⟩ : ∃ d, (cs.getD k zeroC).2 = d := ⟨_, rfl⟩
      rw [hs] at c0; rw [hd] at c1
      have hpair : cs.getD k zeroC = (s, d) := by rw [← hs, ← hd]
      have hkz : (k : Int) < (cs.length : Int) := by omega
      cases hq : (s.toList == code.toList)
      · have HST := Lib.hid (find_step cs code k hlt HN.out (by rw [hpair]; exact hq))
        clear hs hd hB hpair
        go_wp2_with fail
        go_roundw
        case rel => exact ⟨k + 1, hlt, by go_num, HST.out, HX.out.al _⟩
        case measure => simp [RowKit.intOf]; omega
      · have HRR : Hid (R = ((s, d), true)) := Lib.hid (by rw [← HR.out, find_hit cs code k hlt HN.out (by rw [hpair]; exact hq), hpair])
        clear hs hd hB hpair
        go_wp2_with fail
        obtain ⟨p0, p1, p2⟩ := HX.out.put (.string s) (.int .i64 d) (.cells #[.string s, .int .i64 d] 35)
        refine bodyPost_ret (v := .tuple #[.agg #[.string s, .int .i64 d], .bool true]) (by simp [results, Tryd.results20, go_sem, p0, p1]) rfl ⟨by rw [HRR.out]; rfl, p2⟩
    · have he : k = cs.length := by omega
      subst he
      have HRR : Hid (R = (zeroC, false)) := Lib.hid (by rw [← HR.out, find_none cs code HN.out])
      clear hB
      go_wp2_with fail
      refine bodyPost_ret (v := .tuple #[.agg #[.string ⟨#[]⟩, .int .i64 0], .bool false]) (by simp [results, Tryd.results20, go_sem, r0, r1]) rfl ⟨by rw [HRR.out]; rfl, ?_⟩
      repeat (first | exact HB.out | refine bset ?_ (Nat.le_refl _) _ | refine bal ?_ _)

set_option maxRecDepth 100000 in
set_option maxHeartbeats 4000000 in
theorem rfind (ao : Option Addr) (cap : Nat) (cs : List Cur) (code : ByteArray) (w : World) (hlen : cs.length ≤ 1000000) (hc : CashAt ao cs w) :
    Calls Tryd.prog 21 #[.slice ao cs.length cap, .string code] w fun e w' => e = .returned (.tuple #[encC (findC cs code).1, .bool (findC cs code).2]) ∧ Below w.heap.size w w' := by
  obtain ⟨R, hR⟩ : ∃ R, findC cs code = R := ⟨_, rfl⟩
  rw [hR]
  have HR := Lib.hid hR
  have HC := Lib.hid hc
  clear hR hc
  go_enter Tryd.func21, Tryd.ntmps21
  go_wp2_with fail
  go_loopw [6] (fun i wr => ∃ k : Nat, k ≤ cs.length ∧ i = .int .i64 k ∧ (cs.take k).find? (isC code) = none ∧ Box w wr) (fun i _ => cs.length - (RowKit.intOf i).toNat)
  case atStart => exact ⟨0, by omega, rfl, rfl, by simp [go_sem], by simp [go_sem], by simp [go_sem], by simp [go_sem], bal (bref _) _, by simp⟩
  case round =>
    obtain ⟨k, hk, rfl, hn, hX⟩ := hrel
    have HX := Lib.hid hX
    obtain ⟨r0, r1, f0, f1, hB, hlt0⟩ := hX
    have HN := Lib.hid hn; have HB := Lib.hid hB
    clear hn
    by_cases hlt : k < cs.length
    · obtain ⟨b, off, rfl, hbw, c0, c1⟩ := (HC.out.keep hB) k hlt
      obtain ⟨s, hs⟩ : ∃ s, (cs.getD k zeroC).1 = s := ⟨_, rfl⟩
      obtain ⟨d, hd⟩ : ∃ d, (cs.getD k zeroC).2 = d := ⟨_, rfl⟩
      rw [hs] at c0; rw [hd] at c1
      have hpair : cs.getD k zeroC = (s, d) := by rw [← hs, ← hd]
      have hkz : (k : Int) < (cs.length : Int) := by omega
      cases hq : (s.toList == code.toList)
      · have HST := Lib.hid (find_step cs code k hlt HN.out (by rw [hpair]; exact hq))
        clear hs hd hB hpair
        go_wp2_with fail
        go_roundw
        case rel => exact ⟨k + 1, hlt, by go_num, HST.out, HX.out⟩
        case measure => simp [RowKit.intOf]; omega
      · have HRR : Hid (R = ((s, d), true)) := Lib.hid (by rw [← HR.out, find_hit cs code k hlt HN.out (by rw [hpair]; exact hq), hpair])
        clear hs hd hB hpair
        go_wp2_with fail
        refine bodyPost_ret (v := .tuple #[.agg #[.string s, .int .i64 d], .bool true]) (by simp [results, Tryd.results21, go_sem, r0, r1]) rfl ⟨by rw [HRR.out]; rfl, ?_⟩
        exact bset (bset HB.out (Nat.le_refl _) _) (Nat.le_refl _) _
    · have he : k = cs.length := by omega
      subst he
      have HRR : Hid (R = (zeroC, false)) := Lib.hid (by rw [← HR.out, find_none cs code HN.out])
      clear hB
      go_wp2_with fail
      refine bodyPost_ret (v := .tuple #[.agg #[.string ⟨#[]⟩, .int .i64 0], .bool false]) (by simp [results, Tryd.results21, go_sem, r0, r1]) rfl ⟨by rw [HRR.out]; rfl, ?_⟩
      repeat (first | exact HB.out | refine bset ?_ (Nat.le_refl _) _ | refine bal ?_ _)
end Go.Proofs.YtkijbckpfcfcpabDoor
