/-
  The contract of package rounding's shares, over a slice that is there.
-/
import Derived.Test.YtjhfbnndapopgaaDoorRSum
import Derived.Test.YtjhfbnndapopgaaDoorRDef
import Derived.Maps.AppendAt
import Derived.OwnWalk
namespace Go.Proofs.YtjhfbnndapopgaaDoor
open Go Go.RowKit WM

/-- Two slices of the call's own share no memory. -/
def Apart (x y : Value) : Prop := x.ownBlock = none ∨ x.ownBlock ≠ y.ownBlock
theorem own_below {w w' : World} {base : Nat} {e : TypeId} {size : Nat} {v : Value} {n : Nat} {xs : List Value} (h : w.ownsRow base e size v n xs) (hb : Below w.heap.size w w') : w'.ownsRow base e size v n xs := by
  refine ⟨h.1, ?_⟩
  rcases h.2 with hn | ⟨g, cap, cur, rfl, hbg, hg, rest⟩
  · exact Or.inl hn
  · refine Or.inr ⟨g, cap, cur, rfl, hbg, ?_, rest⟩
    rw [hb.block g (Array.getElem?_eq_some_iff.1 hg).1]
    exact hg
theorem info3 : (Tryd.prog.info? 3).map (fun i => (i.zero, i.size, i.bytes)) = some (some (.int .i64 0), 1, 8) := by kernel_rfl
def partL (a t : Int) (l : List Int) : List Int := l.map (fun z => a * z / t)
def remL (a t : Int) (l : List Int) : List Int := l.map (fun z => a * z % t)
def vals (l : List Int) : List Value := l.map (Value.int .i64)
theorem partL_take (a t : Int) (l : List Int) (k : Nat) (h : k < l.length) : vals (partL a t (l.take (k + 1))) = vals (partL a t (l.take k)) ++ [.int .i64 (a * l.getD k 0 / t)] := by
  rw [take_snoc_i l k h]; simp [vals, partL]
theorem remL_take (a t : Int) (l : List Int) (k : Nat) (h : k < l.length) : vals (remL a t (l.take (k + 1))) = vals (remL a t (l.take k)) ++ [.int .i64 (a * l.getD k 0 % t)] := by
  rw [take_snoc_i l k h]; simp [vals, remL]
/-- The shares' loop at its k-th head. -/
def SRel (w : World) (a t : Int) (zs : List Int) (k : Nat) (x y : Value) (wr : World) : Prop :=
  wr.ownsRow w.heap.size 3 1 x k (vals (partL a t (zs.take k))) ∧ wr.ownsRow w.heap.size 3 1 y k (vals (remL a t (zs.take k))) ∧ Apart x y ∧ Below w.heap.size w wr
/-- Behind both appends. -/
theorem SRel.step {w wr w3 w4 w5 : World} {a t : Int} {zs : List Int} {k : Nat} {x y x' y' : Value} {o o2 : Obj} (h : SRel w a t zs k x y wr) (hk : k < zs.length) (q3 : Below wr.heap.size wr w3)
    (hx : w4.ownsRow w.heap.size 3 1 x' (k + 1) (vals (partL a t (zs.take k)) ++ [.int .i64 (a * zs.getD k 0 / t)])) (gx : (w3.alloc o).grownBy w4 x.ownBlock) (ax : x'.ownBlock = x.ownBlock ∨ x'.ownBlock = some (w3.alloc o).heap.size)
    (hy : w5.ownsRow w.heap.size 3 1 y' (k + 1) (vals (remL a t (zs.take k)) ++ [.int .i64 (a * zs.getD k 0 % t)])) (gy : (w4.alloc o2).grownBy w5 y.ownBlock) (ay : y'.ownBlock = y.ownBlock ∨ y'.ownBlock = some (w4.alloc o2).heap.size) : SRel w a t zs (k + 1) x' y' w5 := by
  obtain ⟨h1, h2, h3, h4⟩ := h
  have s3 := q3.size
  have s4 := gx.size
  have s5 := gy.size
  have sw := h4.size
  simp only [World.alloc, Array.size_push] at s4 s5 ax ay
  have lx := h1.lt; have ly := h2.lt
  have lx' := hx.lt
  have hxw5 : w5.ownsRow w.heap.size 3 1 x' (k + 1) (vals (partL a t (zs.take k)) ++ [.int .i64 (a * zs.getD k 0 / t)]) := by
    refine (hx.alloc o2).kept gy ?_
    rcases ax with e | e
    · rcases h3 with n | n
      · left; rw [e, n]
      · right; rw [e]; exact n
    · right; rw [e]
      intro c
      have := ly _ c.symm
      omega
  refine ⟨by rw [partL_take _ _ _ _ hk]; exact hxw5, by rw [remL_take _ _ _ _ hk]; exact hy, ?_, ?_⟩
  · unfold Apart
    rcases ay with e | e
    · rcases ax with e2 | e2
      · rcases h3 with n | n
        · left; rw [e2, n]
        · right; rw [e, e2]; exact n
      · right; rw [e, e2]; intro c; have := ly _ c.symm; omega
    · right; rw [e]; intro c; have := lx' _ c; omega
  · have b3 : Below w.heap.size w w3 := h4.trans (q3.mono sw)
    have b4 : Below w.heap.size w w4 := (bal b3 o).grown gx (by simp; omega) (fun j hj => (lx j hj).1)
    exact (bal b4 o2).grown gy (by simp; omega) (fun j hj => (ly j hj).1)
/-- The second slice behind the first append. -/
theorem SRel.mid {w wr w3 w4 : World} {a t : Int} {zs : List Int} {k : Nat} {x y : Value} {o o2 : Obj} (h : SRel w a t zs k x y wr) (q3 : Below wr.heap.size wr w3) (gx : (w3.alloc o).grownBy w4 x.ownBlock) :
    (w4.alloc o2).ownsRow w.heap.size 3 1 y k (vals (remL a t (zs.take k))) := by
  obtain ⟨h1, h2, h3, h4⟩ := h
  refine (((own_below h2 q3).alloc o).kept gx ?_).alloc o2
  rcases h3 with n | n
  · cases hy : y.ownBlock
    · left; rfl
    · right; rw [n]; simp
  · right; exact fun c => n c.symm

theorem news1 (w : World) (z : Int) : ∀ j u, [Value.int .i64 z][j]? = some u → (w.alloc (.cells #[.int .i64 z] 3)).cell? ((⟨w.heap.size, 0, none⟩ : Addr).add j) = some u := by
  intro j u hj
  match j, hj with
  | 0, hj => simp at hj; subst hj; simp [Addr.add]
theorem one1 (z : Int) : ∀ u ∈ [Value.int .i64 z], u.oneCell' = true := by
  intro u hu; simp at hu; subst hu; rfl

set_option maxRecDepth 100000 in
set_option maxHeartbeats 4000000 in
theorem shares_any (a t : Int) (b off cap : Nat) (zs : List Int) (w : World) (ha : 0 ≤ a ∧ a ≤ 1000000000000) (ht : 1 ≤ t ∧ t ≤ 64000000000000) (hlen : zs.length ≤ 64) (hz : ∀ i, i < zs.length → 0 ≤ zs.getD i 0 ∧ zs.getD i 0 ≤ 1000000000000 ∧ zs.getD i 0 ≤ t)
    (hb : b < w.heap.size) (hc : ∀ i, i < zs.length → w.cell? ⟨b, off + i, none⟩ = some (.int .i64 (zs.getD i 0))) :
    Calls Tryd.prog 59 #[.int .i64 a, .slice (some ⟨b, off, none⟩) zs.length cap, .int .i64 t] w fun e w' =>
      ∃ x y, e = .returned (.tuple #[x, y]) ∧ SRel w a t zs zs.length x y w' := by
  have HC := Lib.hid hc; have HZ := Lib.hid hz
  obtain ⟨i0, hi, hz0, hz1, hz2⟩ := info_parts info3
  have hIa : I64 a := by unfold I64; omega
  have hIt : I64 t := by unfold I64; omega
  have ht1 : 1 ≤ t := ht.1
  clear hc hz
  go_enter Tryd.func59, Tryd.ntmps59
  go_wp2
  go_loopw [6, 7, 17] (fun x y i wr => ∃ k : Nat, k ≤ zs.length ∧ i = .int .i64 k ∧ SRel w a t zs k x y wr) (fun _ _ i _ => zs.length - (RowKit.intOf i).toNat)
  case atStart => exact ⟨0, by omega, rfl, World.ownsRow_nil _ _ _ _, World.ownsRow_nil _ _ _ _, Or.inl rfl, bref _⟩
  case round =>
    obtain ⟨k, hk, rfl, hR⟩ := hrel
    by_cases hlt : k < zs.length
    · have hcell := ((hR.2.2.2).cell (p := ⟨b, off + k, none⟩) hb).trans (HC.out k hlt)
      have hzk := HZ.out k hlt
      obtain ⟨z, hzz⟩ : ∃ z, zs.getD k 0 = z := ⟨_, rfl⟩
      rw [hzz] at hcell hzk
      have hIz : I64 z := by unfold I64; omega
      have hin : inW (a * z) = true := prod_in hIa hIz
      have M := Lib.hid (fun W => mul_any a z hIa hIz W)
      have D := fun W => div_any (wH (a * z)) (wL (a * z)) t (wH_I64 _) (wL_U64 _) hIt ht1 W
      simp only [val_w hin] at D
      have p0 : 0 ≤ a * z := Int.mul_nonneg ha.1 hzk.1
      have p1 : a * z ≤ a * t := Int.mul_le_mul_of_nonneg_left hzk.2.2 ha.1
      obtain ⟨P, hP⟩ : ∃ P, a * z = P := ⟨_, rfl⟩
      rw [hP] at p0 p1
      have hq0 : 0 ≤ P / t := Int.ediv_nonneg p0 (by omega)
      have hq1 : P / t ≤ a := by
        have := Int.ediv_le_ediv (c := t) (by omega) p1
        rwa [Int.mul_ediv_cancel _ (by omega)] at this
      obtain ⟨Q, hQ⟩ : ∃ Q, P / t = Q := ⟨_, rfl⟩
      obtain ⟨R, hRR⟩ : ∃ R, P % t = R := ⟨_, rfl⟩
      rw [hQ] at hq0 hq1
      have hinq : inW Q = true := by rw [inW_iff]; omega
      simp only [hP] at M D
      simp only [hQ, hRR] at D
      have hiq : isInt Q = true := by unfold isInt; simp; omega
      have htq : toInt Q = Q := by unfold toInt; rw [hiq, if_pos rfl]
      have I := fun W => int_any (wH Q) (wL Q) (wH_I64 _) (wL_U64 _) W
      simp only [val_w hinq, hiq, htq] at I
      have I := Lib.hid I; have D := Lib.hid D
      have HR := Lib.hid hR
      have hEQ : Hid (a * zs.getD k 0 / t = Q ∧ a * zs.getD k 0 % t = R) := Lib.hid (by rw [hzz, hP]; exact ⟨hQ, hRR⟩)
      have sW := hR.2.2.2.size
      clear hP hQ hRR hR hq0 hq1 hinq p0 p1 hin hzz hiq htq
      go_wp2_with fail
      refine (M.out _).mono ?_
      rintro e w1 ⟨rfl, q1⟩
      go_wp2_with fail
      refine (D.out _).mono ?_
      rintro e w2 ⟨rfl, q2⟩
      go_wp2_with fail
      refine (I.out _).mono ?_
      rintro e w3 ⟨rfl, q3⟩
      have B3 : Below wr.heap.size wr w3 := btr (bal (btr q1 q2) _) q3
      have s3 := B3.size
      clear q1 q2 q3
      have hown := (own_below HR.out.1 B3).alloc (.cells #[.int .i64 Q] 3)
      clear M D I
      go_wp2_with (first | (at_builtin; refine wpList_append_own_at _ rfl (.tmp 35) (.tmp 37) 44 rfl w.heap.size 3 i0 (.int .i64 0) 1 8 Tryd.underlying44 hi hz0 hz1 hz2 rfl (by decide) _ _ _ rfl hown ⟨w3.heap.size, 0, none⟩ 1 1 [.int .i64 Q] rfl rfl (news1 w3 Q) (one1 Q) (by unfold maxLen; omega) (by omega) (by simp; omega) ?_; intro x' w4 ox gx _ ax; have hown2 := HR.out.mid B3 gx (o2 := .cells #[.int .i64 R] 3); have s4 := gx.size) | (at_builtin; refine wpList_append_own_at _ rfl (.tmp 39) (.tmp 41) 44 rfl w.heap.size 3 i0 (.int .i64 0) 1 8 Tryd.underlying44 hi hz0 hz1 hz2 rfl (by decide) _ _ _ rfl hown2 ⟨w4.heap.size, 0, none⟩ 1 1 [.int .i64 R] rfl rfl (news1 w4 R) (one1 R) (by unfold maxLen; omega) (by omega) (by simp at s4 ⊢; omega) ?_; intro y' w5 oy gy _ ay))
      go_roundw
      case rel => exact ⟨k + 1, by omega, by go_num, HR.out.step hlt B3 (by rw [hEQ.out.1]; exact ox) gx ax (by rw [hEQ.out.2]; exact oy) gy ay⟩
      case measure => simp [RowKit.intOf]; omega
    · have he : k = zs.length := by omega
      subst he
      go_wp2
      go_ret2
      exact ⟨_, _, rfl, hR⟩
end Go.Proofs.YtjhfbnndapopgaaDoor
