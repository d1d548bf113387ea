/-
  The walk of the law RoundingSplits.
-/
import Derived.Test.YtjhfbnndapopgaaDoorSB
import Derived.Test.YtjhfbnndapopgaaDoorRLive
namespace Go.Proofs.YtjhfbnndapopgaaDoor
open Go Go.RowKit Go.Sort WM

/-- A box, and nothing older has changed. -/
def Kg (b : Nat) (x y : Value) (w : World) (W : World) : Prop := Own W b x y ∧ Below w.heap.size w W
theorem Kg.keep {b : Nat} {x y : Value} {w W W1 : World} (h : Kg b x y w W) (hk : Below W.heap.size W W1) : Kg b x y w W1 := ⟨h.1.keep hk, btr h.2 hk⟩
/-- What the loads read, and nothing older has changed. -/
def SpS (g k b o : Nat) (x z : Value) (wo W : World) : Prop := W.cell? ⟨g, k, none⟩ = some x ∧ W.cell? ⟨b, o, none⟩ = some z ∧ Below wo.heap.size wo W
/-- A new box. -/
def Bx (wo : World) (c : Nat) (W : World) : Prop := Own W c (.int .i64 0) (.int .u64 0) ∧ wo.heap.size ≤ c
theorem SpS.keep {g k b o : Nat} {x z : Value} {wo W W1 : World} (h : SpS g k b o x z wo W) (hk : Below W.heap.size W W1) : SpS g k b o x z wo W1 := ⟨keepc hk h.1, keepc hk h.2.1, btr h.2.2 hk⟩
theorem Bx.new {g k b o : Nat} {x z : Value} {wo W : World} (h : SpS g k b o x z wo W) : Bx wo W.heap.size (W.alloc (.cells #[.int .i64 0, .int .u64 0] 24)) := ⟨Own.new W _ _ _, h.2.2.size⟩
theorem Bx.keep {wo W W1 : World} {c : Nat} (h : Bx wo c W) (hk : Below W.heap.size W W1) : Bx wo c W1 := ⟨h.1.keep hk, h.2⟩
theorem SpS.put {g k b o c : Nat} {x z : Value} {wo W : World} (h : SpS g k b o x z wo W) (hb : Bx wo c W) (h1 : g < wo.heap.size) (h2 : b < wo.heap.size) (u v : Value) :
    SpS g k b o x z wo ((W.setCell ⟨c, 0, none⟩ u).setCell ⟨c, 1, none⟩ v) := by
  have hc := hb.2
  refine ⟨?_, ?_, bset (bset h.2.2 hc _) hc _⟩
  · rw [World.cell?_setCell_other _ _ _ _ (by intro e; have := congrArg Addr.block e; simp at this; omega), World.cell?_setCell_other _ _ _ _ (by intro e; have := congrArg Addr.block e; simp at this; omega)]; exact h.1
  · rw [World.cell?_setCell_other _ _ _ _ (by intro e; have := congrArg Addr.block e; simp at this; omega), World.cell?_setCell_other _ _ _ _ (by intro e; have := congrArg Addr.block e; simp at this; omega)]; exact h.2.1
/-- Where the loop over the parts stands. -/
def SpR (PL : List Int) (n g0 : Nat) (w : World) (gg : Nat) (v9 v10 : Value) (wr : World) : Prop :=
  ∃ k : Nat, k ≤ n ∧ gg = n - k ∧ v10 = .int .i64 k ∧ v9 = .int .i64 (sumI (PL.take k)) ∧ XRow wr g0 n PL ∧ Below w.heap.size w wr
theorem mul_bd {x y A B : Int} (hx : -A ≤ x ∧ x ≤ A) (hy : -B ≤ y ∧ y ≤ B) (hA : 0 ≤ A) (hB : 0 ≤ B) : -(A * B) ≤ x * y ∧ x * y ≤ A * B := by
  have h : (x * y).natAbs ≤ A.natAbs * B.natAbs := by
    rw [Int.natAbs_mul]; exact Nat.mul_le_mul (by omega) (by omega)
  have e : (A * B) = ((A.natAbs * B.natAbs : Nat) : Int) := by
    rw [Int.natCast_mul, Int.natAbs_of_nonneg hA, Int.natAbs_of_nonneg hB]
  rw [e]
  omega
/-- The sum of the first parts is no great number. -/
theorem sum_part {PL : List Int} {n : Nat} (h : PL.length = n ∧ n ≤ 64 ∧ ∀ i, i < n → goodB (PL.getD i 0) = true) {k : Nat} : -64000000000000 ≤ sumI (PL.take k) ∧ sumI (PL.take k) ≤ 64000000000000 := by
  obtain ⟨hl, h64, hg⟩ := h
  have key : ∀ j : Nat, j ≤ n → -(1000000000000 * (j : Int)) ≤ sumI (PL.take j) ∧ sumI (PL.take j) ≤ 1000000000000 * (j : Int) := by
    intro j
    induction j with
    | zero => intro _; simp [sumI]
    | succ j ih =>
      intro hj
      obtain ⟨i0, i1⟩ := ih (by omega)
      have := hg j (by omega)
      have : -1000000000000 ≤ PL.getD j 0 ∧ PL.getD j 0 ≤ 1000000000000 := by simpa [goodB] using this
      rw [take_snoc_i PL j (by omega), sumI_snoc]
      omega
  by_cases c : k ≤ n
  · have := key k c; omega
  · have := key n (Nat.le_refl n)
    rw [List.take_of_length_le (by omega)]
    rw [List.take_of_length_le (by omega)] at this
    omega
theorem XRow.keep {w w' : World} {g n : Nat} {l : List Int} (h : XRow w g n l) (hb : Below w.heap.size w w') : XRow w' g n l :=
  ⟨h.1, fun j hj => ⟨keepc hb (h.2 j hj).1, keepf hb (h.2 j hj).1 (h.2 j hj).2⟩⟩

set_option maxRecDepth 100000 in
set_option maxHeartbeats 32000000 in
theorem splits_of (L : Live2) (a : Int) (ao : Option Addr) (cap : Nat) (zs : List Int) (_ : I64 a) (w : World) (hch : Ch w)
    (hc : ∀ i, i < zs.length → ∃ b off, ao = some ⟨b, off, none⟩ ∧ b < w.heap.size ∧ w.cell? ⟨b, off + i, none⟩ = some (.int .i64 (zs.getD i 0))) :
    Calls Tryd.prog 8 #[.int .i64 a, .slice ao zs.length cap] w fun e w' => e = .returned (.bool true) ∧ Below w.heap.size w w' := by
  by_cases hbig : 100 < zs.length
  · have hb' : (100 : Int) < (zs.length : Int) := by omega
    have HC := Lib.hid hc
    clear hc hbig
    go_enter Tryd.func8, Tryd.ntmps8
    go_wp2_with fail
    refine (L _ hch).mono ?_
    rintro e w4 ⟨rfl, q4⟩
    go_wp2_with fail
    go_ret
    exact ⟨rfl, q4⟩
  have hb' : (zs.length : Int) ≤ 100 := by omega
  by_cases h0 : zs.length = 0
  · have TE := fun W => total_empty ao cap W
    have SE := fun W => split_empty a ao cap W
    rw [h0]
    have TE := Lib.hid TE; have SE := Lib.hid SE
    clear hc hbig hb' h0
    go_enter Tryd.func8, Tryd.ntmps8
    go_wp2_with fail
    refine (TE.out _).mono ?_
    rintro e w1 ⟨rfl, q, rfl⟩
    go_wp2_with fail
    refine (SE.out _).mono ?_
    rintro e w2 ⟨rfl, q2⟩
    have Z2 := btr (bdn (bref w) q) q2
    go_wp2_with fail
    refine (L _ (hch.keep Z2)).mono ?_
    rintro e w4 ⟨rfl, q4⟩
    have Z4 := btr Z2 q4
    go_wp2_with fail
    go_ret
    exact ⟨rfl, Z4⟩
  obtain ⟨b, off, rfl, hb, _⟩ := hc 0 (by omega)
  have hc : ∀ i, i < zs.length → w.cell? ⟨b, off + i, none⟩ = some (.int .i64 (zs.getD i 0)) := fun i hi => by
    obtain ⟨b2, o2, e, _, h⟩ := hc i hi
    simp only [Option.some.injEq, Addr.mk.injEq, and_true] at e
    rw [e.1, e.2]; exact h
  have TT := total_any b off cap zs w (by omega) hc
  have GA := fun W => rgood_any a W
  by_cases hs : sumW zs = 0
  · have SE := fun W k => split_err a b off cap zs W (by omega) (Or.inr hs) k
    rw [hs] at TT
    have TT := Lib.hid TT; have SE := Lib.hid SE; have HC := Lib.hid hc
    clear hc hbig h0 hs
    go_enter Tryd.func8, Tryd.ntmps8
    go_wp2_with fail
    refine TT.out.mono ?_
    rintro e w1 ⟨⟨t, rfl, _⟩, q, rfl⟩
    go_wp2_with fail
    refine (SE.out (w.drewN q) (fun i hi => HC.out i hi)).mono ?_
    rintro e w2 ⟨rfl, q2⟩
    have Z2 := btr (bdn (bref w) q) q2
    go_wp2_with fail
    refine (L _ (hch.keep Z2)).mono ?_
    rintro e w4 ⟨rfl, q4⟩
    have Z4 := btr Z2 q4
    go_wp2_with fail
    go_ret
    exact ⟨rfl, Z4⟩
  have h1 : 1 ≤ sumW zs := by have := (accepted hs); omega
  have hpos : decide (0 < sumW zs) = true := by simp; omega
  cases hg : goodB a
  · have SE := fun W k => split_err a b off cap zs W (by omega) (Or.inl hg) k
    rw [hpos] at TT
    simp only [hg] at GA
    have TT := Lib.hid TT; have SE := Lib.hid SE; have HC := Lib.hid hc; have GA := Lib.hid GA
    clear hc hbig h0 hs h1 hpos hg
    go_enter Tryd.func8, Tryd.ntmps8
    go_wp2_with fail
    refine TT.out.mono ?_
    rintro e w1 ⟨⟨t, rfl, _⟩, q, rfl⟩
    go_wp2_with fail
    refine (SE.out (w.drewN q) (fun i hi => HC.out i hi)).mono ?_
    rintro e w2 ⟨rfl, q2⟩
    have Z2 := btr (bdn (bref w) q) q2
    go_wp2_with fail
    refine (GA.out _).mono ?_
    rintro e w3 ⟨rfl, rfl⟩
    go_wp2_with fail
    refine (L _ (hch.keep Z2)).mono ?_
    rintro e w4 ⟨rfl, q4⟩
    have Z4 := btr Z2 q4
    go_wp2_with fail
    go_ret
    exact ⟨rfl, Z4⟩
  obtain ⟨fl, fs, fi⟩ := spL_facts a zs hg hs
  have SK := fun W k1 k2 => split_ok a b off cap zs W hg hs k1 k2
  obtain ⟨PL, hPL⟩ : ∃ PL, spL a zs = PL := ⟨_, rfl⟩
  rw [hPL] at fl fs fi
  simp only [hPL] at SK
  obtain ⟨S, hS⟩ : ∃ S, sumW zs = S := ⟨_, rfl⟩
  rw [hpos] at TT
  rw [hS] at fi h1
  have hS64 : S ≤ 64000000000000 := by
    obtain ⟨k1, k2, k3, _⟩ := accepted hs
    have := (sumI_bd zs k2).2
    omega
  have TT : Hid (Calls Tryd.prog 33 #[.slice (some ⟨b, off, none⟩) zs.length cap] w fun e w' => e = .returned (.tuple #[.int .i64 S, .bool true]) ∧ ∃ q, w' = w.drewN q) :=
    Lib.hid (TT.mono fun e w' ⟨⟨t, he, ht⟩, hw⟩ => ⟨by rw [he, ht (by omega), hS], hw⟩)
  simp only [hg] at GA
  have HGA := Lib.hid hg
  have hgz := hg
  have HWL0 := weight_le (accepted hs).2.1
  have HGP0 : PL.length = zs.length ∧ zs.length ≤ 64 ∧ ∀ i, i < zs.length → goodB (PL.getD i 0) = true := ⟨fl, (accepted hs).1, fun i hi => (fi i hi).1⟩
  have SK := Lib.hid SK; have HC := Lib.hid hc; have HWL0 := Lib.hid HWL0; have HGP0 := Lib.hid HGP0; have GA := Lib.hid GA; have FI := Lib.hid fi; have FS := Lib.hid fs; have FL := Lib.hid fl
  clear hc hbig h0 hs hpos hg hgz fl fs fi hPL hS
  go_enter Tryd.func8, Tryd.ntmps8
  go_wp2_with fail
  refine TT.out.mono ?_
  rintro e w1 ⟨rfl, q, rfl⟩
  go_wp2_with fail
  refine (SK.out (w.drewN q) hb (fun i hi => HC.out i hi)).mono ?_
  rintro e w2 ⟨g, c, rfl, hX, q2⟩
  have Z2 := btr (bdn (bref w) q) q2
  clear q2
  go_wp2_with fail
  refine (GA.out _).mono ?_
  rintro e w3 ⟨rfl, rfl⟩
  go_wp2_with fail
  obtain ⟨n, hn⟩ : ∃ n, zs.length = n := ⟨_, rfl⟩
  have FI := FI.out
  have FL := FL.out
  have HC := HC.out
  have WL := HWL0.out
  have GP := HGP0.out
  rw [hn] at FI FL hX hb' HC WL GP
  simp only [hn]
  have HN := Lib.hid hn
  have HFI := Lib.hid FI; have HFL := Lib.hid FL; have HHC := Lib.hid HC; have HWL := Lib.hid WL; have HGP := Lib.hid GP
  clear hn FI FL HC SK TT WL GP HWL0 HGP0
  have h2S : -64000000000000 ≤ -S := by omega
  have HST : Hid (SpR PL n g w n (.int .i64 0) (.int .i64 0) w2) := Lib.hid ⟨0, by omega, rfl, rfl, rfl, hX, Z2⟩
  go_loopg [9, 10] n (fun gg s i wr => SpR PL n g w gg s i wr)
  case atStart => exact HST.out
  case round =>
    obtain ⟨k, hk, hg, rfl, rfl, hY, hB⟩ := hrel
    obtain ⟨wo, rfl⟩ : ∃ wo : World, wo = wr := ⟨_, rfl⟩
    by_cases hlt : k < n
    · obtain ⟨f1, f2, f3, f4, f5⟩ := HFI.out k hlt
      obtain ⟨hcl, _⟩ := hY.2 k hlt
      have hcz := keepc hB (HHC.out k hlt)
      obtain ⟨x, hx⟩ : ∃ x, PL.getD k 0 = x := ⟨_, rfl⟩
      obtain ⟨z, hz⟩ : ∃ z, zs.getD k 0 = z := ⟨_, rfl⟩
      rw [hx] at f1 f2 f3 f4 f5 hcl
      rw [hz] at f4 f5 hcz
      have GX := fun W => rgood_any x W
      simp only [f1] at GX
      have GX := Lib.hid GX
      obtain ⟨hx0, hx1⟩ : -1000000000000 ≤ x ∧ x ≤ 1000000000000 := by simpa [goodB] using f1
      obtain ⟨ha0, ha1⟩ : -1000000000000 ≤ a ∧ a ≤ 1000000000000 := by simpa [goodB] using HGA.out
      obtain ⟨hz0, hz1⟩ : 0 ≤ z ∧ z ≤ 1000000000000 := by rw [← hz]; exact ⟨(HWL.out k hlt).1, (HWL.out k hlt).2.1⟩
      have hD : I64 (x * S - a * z) := by unfold I64; omega
      have m1 := mul_bd (x := x) (y := S) (A := 1000000000000) (B := 64000000000000) ⟨hx0, hx1⟩ ⟨by omega, hS64⟩ (by omega) (by omega)
      rw [show (1000000000000 : Int) * 64000000000000 = 64000000000000000000000000 by decide] at m1
      have m2 := mul_bd (x := a) (y := z) (A := 1000000000000) (B := 1000000000000) ⟨ha0, ha1⟩ ⟨by omega, hz1⟩ (by omega) (by omega)
      rw [show (1000000000000 : Int) * 1000000000000 = 1000000000000000000000000 by decide] at m2
      have M1 := fun W => rmul_any x S (by unfold I64; omega) (by unfold I64; omega) W
      have M2 := fun W => rmul_any a z (by unfold I64; omega) (by unfold I64; omega) W
      have SB := fun W => rsub_any (wH (x * S)) (wL (x * S)) (wH (a * z)) (wL (a * z)) (wH_I64 _) (wL_U64 _) (wH_I64 _) (wL_U64 _) W
      rw [val_w (show inW (x * S) = true by rw [inW_iff]; omega), val_w (show inW (a * z) = true by rw [inW_iff]; omega)] at SB
      have OF1 := fun W => rof_any S (by unfold I64; omega) W
      have hwr : IntKind.i64.wrap (-S) = -S := by rw [IntKind.wrap_i64]; omega
      have OF2 := fun W => rof_any (-S) (by unfold I64; omega) W
      have CM1 := fun W => rcmp_any (wH (x * S - a * z)) (wL (x * S - a * z)) (wH S) (wL S) (wL_U64 _) (wL_U64 _) W
      have CM2 := fun W => rcmp_any (wH (x * S - a * z)) (wL (x * S - a * z)) (wH (-S)) (wL (-S)) (wL_U64 _) (wL_U64 _) W
      rw [val_w (inW_I64 hD), val_w (inW_I64 (show I64 S by unfold I64; omega)), show cmpW (x * S - a * z) S = -1 by unfold cmpW; rw [if_pos f5]] at CM1
      rw [val_w (inW_I64 hD), val_w (inW_I64 (show I64 (-S) by unfold I64; omega)), show cmpW (x * S - a * z) (-S) = 1 by unfold cmpW; rw [if_neg (by omega), if_pos f4]] at CM2
      obtain ⟨DH, g1⟩ : ∃ q, wH (x * S - a * z) = q := ⟨_, rfl⟩
      obtain ⟨DL, g2⟩ : ∃ q, wL (x * S - a * z) = q := ⟨_, rfl⟩
      obtain ⟨DE, g3⟩ : ∃ q, wE (x * S - a * z) = q := ⟨_, rfl⟩
      obtain ⟨UH, g4⟩ : ∃ q, wH (x * S) = q := ⟨_, rfl⟩
      obtain ⟨UL, g5⟩ : ∃ q, wL (x * S) = q := ⟨_, rfl⟩
      obtain ⟨VH, g6⟩ : ∃ q, wH (a * z) = q := ⟨_, rfl⟩
      obtain ⟨VL, g7⟩ : ∃ q, wL (a * z) = q := ⟨_, rfl⟩
      obtain ⟨SH, g8⟩ : ∃ q, wH S = q := ⟨_, rfl⟩
      obtain ⟨SL, g9⟩ : ∃ q, wL S = q := ⟨_, rfl⟩
      obtain ⟨TH, g10⟩ : ∃ q, wH (-S) = q := ⟨_, rfl⟩
      obtain ⟨TL, g11⟩ : ∃ q, wL (-S) = q := ⟨_, rfl⟩
      simp only [g1, g2, g3, g4, g5, g6, g7, g8, g9, g10, g11] at M1 M2 SB OF1 OF2 CM1 CM2
      have M1 := Lib.hid M1; have M2 := Lib.hid M2; have SB := Lib.hid SB; have OF1 := Lib.hid OF1; have OF2 := Lib.hid OF2; have CM1 := Lib.hid CM1; have CM2 := Lib.hid CM2
      have HCL := Lib.hid hcl; have HCZ := Lib.hid hcz
      have gb : g < wo.heap.size := World.block_lt_of_cell? wo _ hcl
      have bb : b < wo.heap.size := World.block_lt_of_cell? wo _ hcz
      have HSX : Hid (sumI (PL.take (k + 1)) = sumI (PL.take k) + x) := Lib.hid (by rw [take_snoc_i PL k (by rw [HFL.out]; exact hlt), sumI_snoc, hx])
      have sb := sum_part HGP.out (k := k)
      obtain ⟨P, hP⟩ : ∃ P, sumI (PL.take k) = P := ⟨_, rfl⟩
      simp only [hP]
      have HPP := Lib.hid hP
      rw [hP] at sb
      obtain ⟨sb0, sb1⟩ := sb
      have hg' : (k : Int) < (n : Int) := by omega
      have hcase : (x < 0 ∧ ¬ 0 < a) ∨ (¬ x < 0 ∧ ¬ 0 < x) ∨ (0 < x ∧ ¬ a < 0) := by
        rcases Int.lt_trichotomy x 0 with c | c | c
        · exact Or.inl ⟨c, fun q => f3 ⟨c, q⟩⟩
        · exact Or.inr (Or.inl ⟨by omega, by omega⟩)
        · exact Or.inr (Or.inr ⟨c, fun q => f2 ⟨c, q⟩⟩)
      clear f1 f2 f3 f4 f5 hD m1 m2 g1 g2 g3 g4 g5 g6 g7 g8 g9 g10 g11 hx hz hP
      rcases hcase with ⟨c, ca⟩ | ⟨c, ca⟩ | ⟨c, ca⟩
      all_goals
        go_wp2_with fail
        refine (GX.out _).mono ?_
        rintro e w3 ⟨rfl, rfl⟩
        go_wp2_with fail
        clear hcl hcz
        have hcl := HCL.out; have hcz := HCZ.out
        have GB := gb; have BB := bb
        go_cut [11, 12] (fun v11 v12 wx => ∃ c : Nat, v11 = .pointer (some ⟨c, 0, none⟩) ∧ v12 = .int .i64 DE ∧ Own wx c (.int .i64 DH) (.int .u64 DL) ∧ Below wo.heap.size wo wx)
        case first =>
          refine wp_region_held_drew (S := (SpS g k b (off + k) (.int .i64 x) (.int .i64 z) wo)) (by kernel_rfl) ⟨hcl, hcz, bdr (bref _)⟩ (fun hH0 => ?_)
          refine wpAnyH_take (i := 0) (oi := _) (v := ?_) rfl (by kernel_rfl) (by kernel_rfl) (by kernel_rfl) (fun _ _ _ h => h) (Or.inl ⟨?_, ?_⟩) hH0 ?_
          rotate_left
          · kernel_rfl
          · (intro W' hSw; obtain ⟨s0, s1, s5⟩ := hSw; go_simp; (try with_reducible rfl))
          (try simp only [List.getElem_toArray])
          (try simp only [List.getElem_cons_succ])
          (try simp only [List.getElem_cons_zero])
          (try simp only [Act.put])
          (try simp only [List.setIfInBounds_toArray])
          (try simp only [List.set_cons_succ])
          (try simp only [List.set_cons_zero])
          refine wpAnyH_take (i := 1) (oi := _) (v := ?_) rfl (by kernel_rfl) (by kernel_rfl) (by kernel_rfl) (fun _ _ _ h => h) (Or.inl ⟨?_, ?_⟩) hH0 ?_
          rotate_left
          · kernel_rfl
          · (intro W' hSw; obtain ⟨s0, s1, s5⟩ := hSw; go_simp; (try with_reducible rfl))
          (try simp only [List.getElem_toArray])
          (try simp only [List.getElem_cons_succ])
          (try simp only [List.getElem_cons_zero])
          (try simp only [Act.put])
          (try simp only [List.setIfInBounds_toArray])
          (try simp only [List.set_cons_succ])
          (try simp only [List.set_cons_zero])
          refine wpAnyH_take (i := 2) (oi := _) (v := ?_) rfl (by kernel_rfl) (by kernel_rfl) (by kernel_rfl) (fun _ _ _ h => h) (Or.inl ⟨?_, ?_⟩) hH0 ?_
          rotate_left
          · kernel_rfl
          · (intro W' hSw; obtain ⟨s0, s1, s5⟩ := hSw; go_simp; (try with_reducible rfl))
          (try simp only [List.getElem_toArray])
          (try simp only [List.getElem_cons_succ])
          (try simp only [List.getElem_cons_zero])
          (try simp only [Act.put])
          (try simp only [List.setIfInBounds_toArray])
          (try simp only [List.set_cons_succ])
          (try simp only [List.set_cons_zero])
          refine wpAnyH_take (i := 3) (oi := _) (v := ?_) rfl (by kernel_rfl) (by kernel_rfl) (by kernel_rfl) (fun _ _ _ h => h) (Or.inl ⟨?_, ?_⟩) hH0 ?_
          rotate_left
          · kernel_rfl
          · (intro W' hSw; obtain ⟨s0, s1, s5⟩ := hSw; go_simp; (try with_reducible rfl))
          (try simp only [List.getElem_toArray])
          (try simp only [List.getElem_cons_succ])
          (try simp only [List.getElem_cons_zero])
          (try simp only [Act.put])
          (try simp only [List.setIfInBounds_toArray])
          (try simp only [List.set_cons_succ])
          (try simp only [List.set_cons_zero])
          refine wpAnyH_take (i := 4) (oi := _) (v := ?_) rfl (by kernel_rfl) (by kernel_rfl) (by kernel_rfl) (fun _ _ _ h => h) (Or.inl ⟨?_, ?_⟩) hH0 ?_
          rotate_left
          · kernel_rfl
          · (intro W' hSw; obtain ⟨s0, s1, s5⟩ := hSw; go_simp; (try with_reducible rfl))
          (try simp only [List.getElem_toArray])
          (try simp only [List.getElem_cons_succ])
          (try simp only [List.getElem_cons_zero])
          (try simp only [Act.put])
          (try simp only [List.setIfInBounds_toArray])
          (try simp only [List.set_cons_succ])
          (try simp only [List.set_cons_zero])
          refine wpAnyH_take (i := 6) (oi := _) (v := ?_) rfl (by kernel_rfl) (by kernel_rfl) (by kernel_rfl) (fun _ _ _ h => h) (Or.inl ⟨?_, ?_⟩) hH0 ?_
          rotate_left
          · kernel_rfl
          · (intro W' hSw; obtain ⟨s0, s1, s5⟩ := hSw; go_simp; (try with_reducible rfl))
          (try simp only [List.getElem_toArray])
          (try simp only [List.getElem_cons_succ])
          (try simp only [List.getElem_cons_zero])
          (try simp only [Act.put])
          (try simp only [List.setIfInBounds_toArray])
          (try simp only [List.set_cons_succ])
          (try simp only [List.set_cons_zero])
          refine wpAnyH_take (i := 7) (oi := _) (v := ?_) rfl (by kernel_rfl) (by kernel_rfl) (by kernel_rfl) (fun _ _ _ h => h) (Or.inl ⟨?_, ?_⟩) hH0 ?_
          rotate_left
          · kernel_rfl
          · (intro W' hSw; obtain ⟨s0, s1, s5⟩ := hSw; go_simp; (try with_reducible rfl))
          (try simp only [List.getElem_toArray])
          (try simp only [List.getElem_cons_succ])
          (try simp only [List.getElem_cons_zero])
          (try simp only [Act.put])
          (try simp only [List.setIfInBounds_toArray])
          (try simp only [List.set_cons_succ])
          (try simp only [List.set_cons_zero])
          refine wpAnyH_take (i := 8) (oi := _) (v := ?_) rfl (by kernel_rfl) (by kernel_rfl) (by kernel_rfl) (fun _ _ _ h => h) (Or.inl ⟨?_, ?_⟩) hH0 ?_
          rotate_left
          · kernel_rfl
          · (intro W' hSw; obtain ⟨s0, s1, s5⟩ := hSw; go_simp; (try with_reducible rfl))
          (try simp only [List.getElem_toArray])
          (try simp only [List.getElem_cons_succ])
          (try simp only [List.getElem_cons_zero])
          (try simp only [Act.put])
          (try simp only [List.setIfInBounds_toArray])
          (try simp only [List.set_cons_succ])
          (try simp only [List.set_cons_zero])
          refine wpAnyH_take (i := 9) (oi := _) (v := ?_) rfl (by kernel_rfl) (by kernel_rfl) (by kernel_rfl) (fun _ _ _ h => h) (Or.inl ⟨?_, ?_⟩) hH0 ?_
          rotate_left
          · kernel_rfl
          · (intro W' hSw; obtain ⟨s0, s1, s5⟩ := hSw; go_simp; (try with_reducible rfl))
          (try simp only [List.getElem_toArray])
          (try simp only [List.getElem_cons_succ])
          (try simp only [List.getElem_cons_zero])
          (try simp only [Act.put])
          (try simp only [List.setIfInBounds_toArray])
          (try simp only [List.set_cons_succ])
          (try simp only [List.set_cons_zero])
          refine wpAnyH_take (i := 10) (oi := _) (v := ?_) rfl (by kernel_rfl) (by kernel_rfl) (by kernel_rfl) (fun _ _ _ h => h) (Or.inl ⟨?_, ?_⟩) hH0 ?_
          rotate_left
          · kernel_rfl
          · (intro W' hSw; obtain ⟨s0, s1, s5⟩ := hSw; go_simp; (try with_reducible rfl))
          (try simp only [List.getElem_toArray])
          (try simp only [List.getElem_cons_succ])
          (try simp only [List.getElem_cons_zero])
          (try simp only [Act.put])
          (try simp only [List.setIfInBounds_toArray])
          (try simp only [List.set_cons_succ])
          (try simp only [List.set_cons_zero])
          refine wpAnyH_ready (rs := [5, 16]) (by kernel_rfl) (by simp) ?_
          refine AllReadyH.cons (o := _) rfl (fun K hK => ?_) (AllReadyH.cons (o := _) rfl (fun K hK => ?_) AllReadyH.nil)
          · go_simp
            refine (M1.out _).mono ?_
            rintro e W2 ⟨rfl, hk3⟩
            refine hK.out _ _ (hH0.keep hk3) (fun hH1 => ?_)
            clear hK K
            (try simp only [List.getElem_toArray])
            (try simp only [List.getElem_cons_succ])
            (try simp only [List.getElem_cons_zero])
            (try simp only [Act.put])
            (try simp only [List.setIfInBounds_toArray])
            (try simp only [List.set_cons_succ])
            (try simp only [List.set_cons_zero])
            refine wpAnyH_ready (rs := [11, 16]) (by kernel_rfl) (by simp) ?_
            refine AllReadyH.cons (o := _) rfl (fun K hK => ?_) (AllReadyH.cons (o := _) rfl (fun K hK => ?_) AllReadyH.nil)
            · go_simp
              refine (M2.out _).mono ?_
              rintro e W5 ⟨rfl, hk6⟩
              refine hK.out _ _ (hH1.keep hk6) (fun hH4 => ?_)
              clear hK K
              (try simp only [List.getElem_toArray])
              (try simp only [List.getElem_cons_succ])
              (try simp only [List.getElem_cons_zero])
              (try simp only [Act.put])
              (try simp only [List.setIfInBounds_toArray])
              (try simp only [List.set_cons_succ])
              (try simp only [List.set_cons_zero])
              refine wpAnyH_ready (rs := [12, 16]) (by kernel_rfl) (by simp) ?_
              refine AllReadyH.cons (o := _) rfl (fun K hK => ?_) (AllReadyH.cons (o := _) rfl (fun K hK => ?_) AllReadyH.nil)
              · go_simp
                refine (SB.out _).mono ?_
                rintro e W8 ⟨rfl, hk9⟩
                refine hK.out _ _ (hH4.keep hk9) (fun hH7 => ?_)
                clear hK K
                (try simp only [List.getElem_toArray])
                (try simp only [List.getElem_cons_succ])
                (try simp only [List.getElem_cons_zero])
                (try simp only [Act.put])
                (try simp only [List.setIfInBounds_toArray])
                (try simp only [List.set_cons_succ])
                (try simp only [List.set_cons_zero])
                refine wpAnyH_take (i := 13) (oi := _) (v := ?_) rfl (by kernel_rfl) (by kernel_rfl) (by kernel_rfl) (fun _ _ _ h => h) (Or.inl ⟨?_, ?_⟩) hH7 ?_
                rotate_left
                · kernel_rfl
                · (intro W' hSw; obtain ⟨s0, s1, s5⟩ := hSw; go_simp; (try with_reducible rfl))
                (try simp only [List.getElem_toArray])
                (try simp only [List.getElem_cons_succ])
                (try simp only [List.getElem_cons_zero])
                (try simp only [Act.put])
                (try simp only [List.setIfInBounds_toArray])
                (try simp only [List.set_cons_succ])
                (try simp only [List.set_cons_zero])
                refine wpAnyH_take (i := 14) (oi := _) (v := ?_) rfl (by kernel_rfl) (by kernel_rfl) (by kernel_rfl) (fun _ _ _ h => h) (Or.inl ⟨?_, ?_⟩) hH7 ?_
                rotate_left
                · kernel_rfl
                · (intro W' hSw; obtain ⟨s0, s1, s5⟩ := hSw; go_simp; (try with_reducible rfl))
                (try simp only [List.getElem_toArray])
                (try simp only [List.getElem_cons_succ])
                (try simp only [List.getElem_cons_zero])
                (try simp only [Act.put])
                (try simp only [List.setIfInBounds_toArray])
                (try simp only [List.set_cons_succ])
                (try simp only [List.set_cons_zero])
                refine wpAnyH_take (i := 15) (oi := _) (v := ?_) rfl (by kernel_rfl) (by kernel_rfl) (by kernel_rfl) (fun _ _ _ h => h) (Or.inl ⟨?_, ?_⟩) hH7 ?_
                rotate_left
                · kernel_rfl
                · (intro W' hSw; obtain ⟨s0, s1, s5⟩ := hSw; go_simp; (try with_reducible rfl))
                (try simp only [List.getElem_toArray])
                (try simp only [List.getElem_cons_succ])
                (try simp only [List.getElem_cons_zero])
                (try simp only [Act.put])
                (try simp only [List.setIfInBounds_toArray])
                (try simp only [List.set_cons_succ])
                (try simp only [List.set_cons_zero])
                refine wpAnyH_ready (rs := [16]) (by kernel_rfl) (by simp) ?_
                refine AllReadyH.cons (o := _) rfl (fun K hK => ?_) AllReadyH.nil
                · have XB11 : Bx wo W8.heap.size (W8.alloc (.cells #[.int .i64 0, .int .u64 0] 24)) := Bx.new hH7
                  go_simp
                  refine hK.out _ _ (hH7.keep (bal (bref _) _)) (fun hH10 => ?_)
                  clear hK K
                  obtain ⟨WA12, hWA12⟩ : ∃ X, W8.alloc (.cells #[.int .i64 0, .int .u64 0] 24) = X := ⟨_, rfl⟩
                  rw [hWA12] at XB11 hH10 ⊢
                  clear hWA12
                  (try simp only [List.getElem_toArray])
                  (try simp only [List.getElem_cons_succ])
                  (try simp only [List.getElem_cons_zero])
                  (try simp only [Act.put])
                  (try simp only [List.setIfInBounds_toArray])
                  (try simp only [List.set_cons_succ])
                  (try simp only [List.set_cons_zero])
                  have PX := hH10.put XB11 GB BB (.int .i64 DH) (.int .u64 DL)
                  have OX := Own.put XB11.1 (.int .i64 DH) (.int .u64 DL)
                  obtain ⟨⟨v0, v1, v2, v3⟩, v4⟩ := XB11
                  refine wpAnyH_ready (rs := [17]) (by kernel_rfl) (by simp) ?_
                  refine AllReadyH.cons (o := _) rfl (fun K hK => ?_) AllReadyH.nil
                  go_simp
                  refine hK.out _ _ PX (fun hH13 => ?_)
                  clear hK K
                  (try simp only [List.getElem_toArray])
                  (try simp only [List.getElem_cons_succ])
                  (try simp only [List.getElem_cons_zero])
                  (try simp only [Act.put])
                  (try simp only [List.setIfInBounds_toArray])
                  (try simp only [List.set_cons_succ])
                  (try simp only [List.set_cons_zero])
                  refine wpAnyH_take (i := 18) (oi := _) (v := ?_) rfl (by kernel_rfl) (by kernel_rfl) (by kernel_rfl) (fun _ _ _ h => h) (Or.inl ⟨?_, ?_⟩) hH13 ?_
                  rotate_left
                  · kernel_rfl
                  · (intro W' hSw; obtain ⟨s0, s1, s5⟩ := hSw; go_simp; (try with_reducible rfl))
                  (try simp only [List.getElem_toArray])
                  (try simp only [List.getElem_cons_succ])
                  (try simp only [List.getElem_cons_zero])
                  (try simp only [Act.put])
                  (try simp only [List.setIfInBounds_toArray])
                  (try simp only [List.set_cons_succ])
                  (try simp only [List.set_cons_zero])
                  refine wpAnyH_done (by kernel_rfl) ?_ _
                  go_wp2_with fail
                  (try simp only [Act.put, List.getElem_toArray, List.getElem_cons_zero, List.getElem_cons_succ, List.setIfInBounds_toArray, List.set_cons_zero, List.set_cons_succ])
                  go_meet
                  exact ⟨_, (by first | rfl | (simp [Act.put]; done)), (by first | rfl | (simp [Act.put]; done)), OX, PX.2.2⟩
              · have XB15 : Bx wo W5.heap.size (W5.alloc (.cells #[.int .i64 0, .int .u64 0] 24)) := Bx.new hH4
                go_simp
                refine hK.out _ _ (hH4.keep (bal (bref _) _)) (fun hH14 => ?_)
                clear hK K
                obtain ⟨WA16, hWA16⟩ : ∃ X, W5.alloc (.cells #[.int .i64 0, .int .u64 0] 24) = X := ⟨_, rfl⟩
                rw [hWA16] at XB15 hH14 ⊢
                clear hWA16
                (try simp only [List.getElem_toArray])
                (try simp only [List.getElem_cons_succ])
                (try simp only [List.getElem_cons_zero])
                (try simp only [Act.put])
                (try simp only [List.setIfInBounds_toArray])
                (try simp only [List.set_cons_succ])
                (try simp only [List.set_cons_zero])
                refine wpAnyH_ready (rs := [12]) (by kernel_rfl) (by simp) ?_
                refine AllReadyH.cons (o := _) rfl (fun K hK => ?_) AllReadyH.nil
                · go_simp
                  refine (SB.out _).mono ?_
                  rintro e W18 ⟨rfl, hk19⟩
                  refine hK.out _ _ (hH14.keep hk19) (fun hH17 => ?_)
                  clear hK K
                  (try simp only [List.getElem_toArray])
                  (try simp only [List.getElem_cons_succ])
                  (try simp only [List.getElem_cons_zero])
                  (try simp only [Act.put])
                  (try simp only [List.setIfInBounds_toArray])
                  (try simp only [List.set_cons_succ])
                  (try simp only [List.set_cons_zero])
                  have XB20 := Bx.keep XB15 hk19
                  refine wpAnyH_take (i := 13) (oi := _) (v := ?_) rfl (by kernel_rfl) (by kernel_rfl) (by kernel_rfl) (fun _ _ _ h => h) (Or.inl ⟨?_, ?_⟩) hH17 ?_
                  rotate_left
                  · kernel_rfl
                  · (intro W' hSw; obtain ⟨s0, s1, s5⟩ := hSw; go_simp; (try with_reducible rfl))
                  (try simp only [List.getElem_toArray])
                  (try simp only [List.getElem_cons_succ])
                  (try simp only [List.getElem_cons_zero])
                  (try simp only [Act.put])
                  (try simp only [List.setIfInBounds_toArray])
                  (try simp only [List.set_cons_succ])
                  (try simp only [List.set_cons_zero])
                  refine wpAnyH_take (i := 14) (oi := _) (v := ?_) rfl (by kernel_rfl) (by kernel_rfl) (by kernel_rfl) (fun _ _ _ h => h) (Or.inl ⟨?_, ?_⟩) hH17 ?_
                  rotate_left
                  · kernel_rfl
                  · (intro W' hSw; obtain ⟨s0, s1, s5⟩ := hSw; go_simp; (try with_reducible rfl))
                  (try simp only [List.getElem_toArray])
                  (try simp only [List.getElem_cons_succ])
                  (try simp only [List.getElem_cons_zero])
                  (try simp only [Act.put])
                  (try simp only [List.setIfInBounds_toArray])
                  (try simp only [List.set_cons_succ])
                  (try simp only [List.set_cons_zero])
                  refine wpAnyH_take (i := 15) (oi := _) (v := ?_) rfl (by kernel_rfl) (by kernel_rfl) (by kernel_rfl) (fun _ _ _ h => h) (Or.inl ⟨?_, ?_⟩) hH17 ?_
                  rotate_left
                  · kernel_rfl
                  · (intro W' hSw; obtain ⟨s0, s1, s5⟩ := hSw; go_simp; (try with_reducible rfl))
                  (try simp only [List.getElem_toArray])
                  (try simp only [List.getElem_cons_succ])
                  (try simp only [List.getElem_cons_zero])
                  (try simp only [Act.put])
                  (try simp only [List.setIfInBounds_toArray])
                  (try simp only [List.set_cons_succ])
                  (try simp only [List.set_cons_zero])
                  have PX := hH17.put XB20 GB BB (.int .i64 DH) (.int .u64 DL)
                  have OX := Own.put XB20.1 (.int .i64 DH) (.int .u64 DL)
                  obtain ⟨⟨v0, v1, v2, v3⟩, v4⟩ := XB20
                  refine wpAnyH_ready (rs := [17]) (by kernel_rfl) (by simp) ?_
                  refine AllReadyH.cons (o := _) rfl (fun K hK => ?_) AllReadyH.nil
                  go_simp
                  refine hK.out _ _ PX (fun hH21 => ?_)
                  clear hK K
                  (try simp only [List.getElem_toArray])
                  (try simp only [List.getElem_cons_succ])
                  (try simp only [List.getElem_cons_zero])
                  (try simp only [Act.put])
                  (try simp only [List.setIfInBounds_toArray])
                  (try simp only [List.set_cons_succ])
                  (try simp only [List.set_cons_zero])
                  refine wpAnyH_take (i := 18) (oi := _) (v := ?_) rfl (by kernel_rfl) (by kernel_rfl) (by kernel_rfl) (fun _ _ _ h => h) (Or.inl ⟨?_, ?_⟩) hH21 ?_
                  rotate_left
                  · kernel_rfl
                  · (intro W' hSw; obtain ⟨s0, s1, s5⟩ := hSw; go_simp; (try with_reducible rfl))
                  (try simp only [List.getElem_toArray])
                  (try simp only [List.getElem_cons_succ])
                  (try simp only [List.getElem_cons_zero])
                  (try simp only [Act.put])
                  (try simp only [List.setIfInBounds_toArray])
                  (try simp only [List.set_cons_succ])
                  (try simp only [List.set_cons_zero])
                  refine wpAnyH_done (by kernel_rfl) ?_ _
                  go_wp2_with fail
                  (try simp only [Act.put, List.getElem_toArray, List.getElem_cons_zero, List.getElem_cons_succ, List.setIfInBounds_toArray, List.set_cons_zero, List.set_cons_succ])
                  go_meet
                  exact ⟨_, (by first | rfl | (simp [Act.put]; done)), (by first | rfl | (simp [Act.put]; done)), OX, PX.2.2⟩
            · have XB23 : Bx wo W2.heap.size (W2.alloc (.cells #[.int .i64 0, .int .u64 0] 24)) := Bx.new hH1
              go_simp
              refine hK.out _ _ (hH1.keep (bal (bref _) _)) (fun hH22 => ?_)
              clear hK K
              obtain ⟨WA24, hWA24⟩ : ∃ X, W2.alloc (.cells #[.int .i64 0, .int .u64 0] 24) = X := ⟨_, rfl⟩
              rw [hWA24] at XB23 hH22 ⊢
              clear hWA24
              (try simp only [List.getElem_toArray])
              (try simp only [List.getElem_cons_succ])
              (try simp only [List.getElem_cons_zero])
              (try simp only [Act.put])
              (try simp only [List.setIfInBounds_toArray])
              (try simp only [List.set_cons_succ])
              (try simp only [List.set_cons_zero])
              refine wpAnyH_ready (rs := [11]) (by kernel_rfl) (by simp) ?_
              refine AllReadyH.cons (o := _) rfl (fun K hK => ?_) AllReadyH.nil
              · go_simp
                refine (M2.out _).mono ?_
                rintro e W26 ⟨rfl, hk27⟩
                refine hK.out _ _ (hH22.keep hk27) (fun hH25 => ?_)
                clear hK K
                (try simp only [List.getElem_toArray])
                (try simp only [List.getElem_cons_succ])
                (try simp only [List.getElem_cons_zero])
                (try simp only [Act.put])
                (try simp only [List.setIfInBounds_toArray])
                (try simp only [List.set_cons_succ])
                (try simp only [List.set_cons_zero])
                have XB28 := Bx.keep XB23 hk27
                refine wpAnyH_ready (rs := [12]) (by kernel_rfl) (by simp) ?_
                refine AllReadyH.cons (o := _) rfl (fun K hK => ?_) AllReadyH.nil
                · go_simp
                  refine (SB.out _).mono ?_
                  rintro e W30 ⟨rfl, hk31⟩
                  refine hK.out _ _ (hH25.keep hk31) (fun hH29 => ?_)
                  clear hK K
                  (try simp only [List.getElem_toArray])
                  (try simp only [List.getElem_cons_succ])
                  (try simp only [List.getElem_cons_zero])
                  (try simp only [Act.put])
                  (try simp only [List.setIfInBounds_toArray])
                  (try simp only [List.set_cons_succ])
                  (try simp only [List.set_cons_zero])
                  have XB32 := Bx.keep XB28 hk31
                  refine wpAnyH_take (i := 13) (oi := _) (v := ?_) rfl (by kernel_rfl) (by kernel_rfl) (by kernel_rfl) (fun _ _ _ h => h) (Or.inl ⟨?_, ?_⟩) hH29 ?_
                  rotate_left
                  · kernel_rfl
                  · (intro W' hSw; obtain ⟨s0, s1, s5⟩ := hSw; go_simp; (try with_reducible rfl))
                  (try simp only [List.getElem_toArray])
                  (try simp only [List.getElem_cons_succ])
                  (try simp only [List.getElem_cons_zero])
                  (try simp only [Act.put])
                  (try simp only [List.setIfInBounds_toArray])
                  (try simp only [List.set_cons_succ])
                  (try simp only [List.set_cons_zero])
                  refine wpAnyH_take (i := 14) (oi := _) (v := ?_) rfl (by kernel_rfl) (by kernel_rfl) (by kernel_rfl) (fun _ _ _ h => h) (Or.inl ⟨?_, ?_⟩) hH29 ?_
                  rotate_left
                  · kernel_rfl
                  · (intro W' hSw; obtain ⟨s0, s1, s5⟩ := hSw; go_simp; (try with_reducible rfl))
                  (try simp only [List.getElem_toArray])
                  (try simp only [List.getElem_cons_succ])
                  (try simp only [List.getElem_cons_zero])
                  (try simp only [Act.put])
                  (try simp only [List.setIfInBounds_toArray])
                  (try simp only [List.set_cons_succ])
                  (try simp only [List.set_cons_zero])
                  refine wpAnyH_take (i := 15) (oi := _) (v := ?_) rfl (by kernel_rfl) (by kernel_rfl) (by kernel_rfl) (fun _ _ _ h => h) (Or.inl ⟨?_, ?_⟩) hH29 ?_
                  rotate_left
                  · kernel_rfl
                  · (intro W' hSw; obtain ⟨s0, s1, s5⟩ := hSw; go_simp; (try with_reducible rfl))
                  (try simp only [List.getElem_toArray])
                  (try simp only [List.getElem_cons_succ])
                  (try simp only [List.getElem_cons_zero])
                  (try simp only [Act.put])
                  (try simp only [List.setIfInBounds_toArray])
                  (try simp only [List.set_cons_succ])
                  (try simp only [List.set_cons_zero])
                  have PX := hH29.put XB32 GB BB (.int .i64 DH) (.int .u64 DL)
                  have OX := Own.put XB32.1 (.int .i64 DH) (.int .u64 DL)
                  obtain ⟨⟨v0, v1, v2, v3⟩, v4⟩ := XB32
                  refine wpAnyH_ready (rs := [17]) (by kernel_rfl) (by simp) ?_
                  refine AllReadyH.cons (o := _) rfl (fun K hK => ?_) AllReadyH.nil
                  go_simp
                  refine hK.out _ _ PX (fun hH33 => ?_)
                  clear hK K
                  (try simp only [List.getElem_toArray])
                  (try simp only [List.getElem_cons_succ])
                  (try simp only [List.getElem_cons_zero])
                  (try simp only [Act.put])
                  (try simp only [List.setIfInBounds_toArray])
                  (try simp only [List.set_cons_succ])
                  (try simp only [List.set_cons_zero])
                  refine wpAnyH_take (i := 18) (oi := _) (v := ?_) rfl (by kernel_rfl) (by kernel_rfl) (by kernel_rfl) (fun _ _ _ h => h) (Or.inl ⟨?_, ?_⟩) hH33 ?_
                  rotate_left
                  · kernel_rfl
                  · (intro W' hSw; obtain ⟨s0, s1, s5⟩ := hSw; go_simp; (try with_reducible rfl))
                  (try simp only [List.getElem_toArray])
                  (try simp only [List.getElem_cons_succ])
                  (try simp only [List.getElem_cons_zero])
                  (try simp only [Act.put])
                  (try simp only [List.setIfInBounds_toArray])
                  (try simp only [List.set_cons_succ])
                  (try simp only [List.set_cons_zero])
                  refine wpAnyH_done (by kernel_rfl) ?_ _
                  go_wp2_with fail
                  (try simp only [Act.put, List.getElem_toArray, List.getElem_cons_zero, List.getElem_cons_succ, List.setIfInBounds_toArray, List.set_cons_zero, List.set_cons_succ])
                  go_meet
                  exact ⟨_, (by first | rfl | (simp [Act.put]; done)), (by first | rfl | (simp [Act.put]; done)), OX, PX.2.2⟩
          · have XB35 : Bx wo wo.heap.size ((wo.alloc (.cells #[.int .i64 0, .int .u64 0] 24)).drew) := (show Bx wo wo.drew.heap.size (wo.drew.alloc (.cells #[.int .i64 0, .int .u64 0] 24)) from Bx.new hH0)
            go_simp
            refine hK.out _ _ (hH0.keep (bal (bref _) _)) (fun hH34 => ?_)
            clear hK K
            obtain ⟨WA36, hWA36⟩ : ∃ X, (wo.alloc (.cells #[.int .i64 0, .int .u64 0] 24)).drew = X := ⟨_, rfl⟩
            rw [hWA36] at XB35 hH34 ⊢
            clear hWA36
            (try simp only [List.getElem_toArray])
            (try simp only [List.getElem_cons_succ])
            (try simp only [List.getElem_cons_zero])
            (try simp only [Act.put])
            (try simp only [List.setIfInBounds_toArray])
            (try simp only [List.set_cons_succ])
            (try simp only [List.set_cons_zero])
            refine wpAnyH_ready (rs := [5]) (by kernel_rfl) (by simp) ?_
            refine AllReadyH.cons (o := _) rfl (fun K hK => ?_) AllReadyH.nil
            · go_simp
              refine (M1.out _).mono ?_
              rintro e W38 ⟨rfl, hk39⟩
              refine hK.out _ _ (hH34.keep hk39) (fun hH37 => ?_)
              clear hK K
              (try simp only [List.getElem_toArray])
              (try simp only [List.getElem_cons_succ])
              (try simp only [List.getElem_cons_zero])
              (try simp only [Act.put])
              (try simp only [List.setIfInBounds_toArray])
              (try simp only [List.set_cons_succ])
              (try simp only [List.set_cons_zero])
              have XB40 := Bx.keep XB35 hk39
              refine wpAnyH_ready (rs := [11]) (by kernel_rfl) (by simp) ?_
              refine AllReadyH.cons (o := _) rfl (fun K hK => ?_) AllReadyH.nil
              · go_simp
                refine (M2.out _).mono ?_
                rintro e W42 ⟨rfl, hk43⟩
                refine hK.out _ _ (hH37.keep hk43) (fun hH41 => ?_)
                clear hK K
                (try simp only [List.getElem_toArray])
                (try simp only [List.getElem_cons_succ])
                (try simp only [List.getElem_cons_zero])
                (try simp only [Act.put])
                (try simp only [List.setIfInBounds_toArray])
                (try simp only [List.set_cons_succ])
                (try simp only [List.set_cons_zero])
                have XB44 := Bx.keep XB40 hk43
                refine wpAnyH_ready (rs := [12]) (by kernel_rfl) (by simp) ?_
                refine AllReadyH.cons (o := _) rfl (fun K hK => ?_) AllReadyH.nil
                · go_simp
                  refine (SB.out _).mono ?_
                  rintro e W46 ⟨rfl, hk47⟩
                  refine hK.out _ _ (hH41.keep hk47) (fun hH45 => ?_)
                  clear hK K
                  (try simp only [List.getElem_toArray])
                  (try simp only [List.getElem_cons_succ])
                  (try simp only [List.getElem_cons_zero])
                  (try simp only [Act.put])
                  (try simp only [List.setIfInBounds_toArray])
                  (try simp only [List.set_cons_succ])
                  (try simp only [List.set_cons_zero])
                  have XB48 := Bx.keep XB44 hk47
                  refine wpAnyH_take (i := 13) (oi := _) (v := ?_) rfl (by kernel_rfl) (by kernel_rfl) (by kernel_rfl) (fun _ _ _ h => h) (Or.inl ⟨?_, ?_⟩) hH45 ?_
                  rotate_left
                  · kernel_rfl
                  · (intro W' hSw; obtain ⟨s0, s1, s5⟩ := hSw; go_simp; (try with_reducible rfl))
                  (try simp only [List.getElem_toArray])
                  (try simp only [List.getElem_cons_succ])
                  (try simp only [List.getElem_cons_zero])
                  (try simp only [Act.put])
                  (try simp only [List.setIfInBounds_toArray])
                  (try simp only [List.set_cons_succ])
                  (try simp only [List.set_cons_zero])
                  refine wpAnyH_take (i := 14) (oi := _) (v := ?_) rfl (by kernel_rfl) (by kernel_rfl) (by kernel_rfl) (fun _ _ _ h => h) (Or.inl ⟨?_, ?_⟩) hH45 ?_
                  rotate_left
                  · kernel_rfl
                  · (intro W' hSw; obtain ⟨s0, s1, s5⟩ := hSw; go_simp; (try with_reducible rfl))
                  (try simp only [List.getElem_toArray])
                  (try simp only [List.getElem_cons_succ])
                  (try simp only [List.getElem_cons_zero])
                  (try simp only [Act.put])
                  (try simp only [List.setIfInBounds_toArray])
                  (try simp only [List.set_cons_succ])
                  (try simp only [List.set_cons_zero])
                  refine wpAnyH_take (i := 15) (oi := _) (v := ?_) rfl (by kernel_rfl) (by kernel_rfl) (by kernel_rfl) (fun _ _ _ h => h) (Or.inl ⟨?_, ?_⟩) hH45 ?_
                  rotate_left
                  · kernel_rfl
                  · (intro W' hSw; obtain ⟨s0, s1, s5⟩ := hSw; go_simp; (try with_reducible rfl))
                  (try simp only [List.getElem_toArray])
                  (try simp only [List.getElem_cons_succ])
                  (try simp only [List.getElem_cons_zero])
                  (try simp only [Act.put])
                  (try simp only [List.setIfInBounds_toArray])
                  (try simp only [List.set_cons_succ])
                  (try simp only [List.set_cons_zero])
                  have PX := hH45.put XB48 GB BB (.int .i64 DH) (.int .u64 DL)
                  have OX := Own.put XB48.1 (.int .i64 DH) (.int .u64 DL)
                  obtain ⟨⟨v0, v1, v2, v3⟩, v4⟩ := XB48
                  refine wpAnyH_ready (rs := [17]) (by kernel_rfl) (by simp) ?_
                  refine AllReadyH.cons (o := _) rfl (fun K hK => ?_) AllReadyH.nil
                  go_simp
                  refine hK.out _ _ PX (fun hH49 => ?_)
                  clear hK K
                  (try simp only [List.getElem_toArray])
                  (try simp only [List.getElem_cons_succ])
                  (try simp only [List.getElem_cons_zero])
                  (try simp only [Act.put])
                  (try simp only [List.setIfInBounds_toArray])
                  (try simp only [List.set_cons_succ])
                  (try simp only [List.set_cons_zero])
                  refine wpAnyH_take (i := 18) (oi := _) (v := ?_) rfl (by kernel_rfl) (by kernel_rfl) (by kernel_rfl) (fun _ _ _ h => h) (Or.inl ⟨?_, ?_⟩) hH49 ?_
                  rotate_left
                  · kernel_rfl
                  · (intro W' hSw; obtain ⟨s0, s1, s5⟩ := hSw; go_simp; (try with_reducible rfl))
                  (try simp only [List.getElem_toArray])
                  (try simp only [List.getElem_cons_succ])
                  (try simp only [List.getElem_cons_zero])
                  (try simp only [Act.put])
                  (try simp only [List.setIfInBounds_toArray])
                  (try simp only [List.set_cons_succ])
                  (try simp only [List.set_cons_zero])
                  refine wpAnyH_done (by kernel_rfl) ?_ _
                  go_wp2_with fail
                  (try simp only [Act.put, List.getElem_toArray, List.getElem_cons_zero, List.getElem_cons_succ, List.setIfInBounds_toArray, List.set_cons_zero, List.set_cons_succ])
                  go_meet
                  exact ⟨_, (by first | rfl | (simp [Act.put]; done)), (by first | rfl | (simp [Act.put]; done)), OX, PX.2.2⟩
        case rest =>
          obtain ⟨c2, rfl, rfl, hO, hZ⟩ := hcut
          have lO := hO.lt
          have hO2 := hO
          obtain ⟨o0, o1, o2, o3⟩ := hO2
          clear M1 M2 SB hcl hcz
          go_wp2_with fail
          refine wp_region_held_drew (S := (Kg c2 (.int .i64 DH) (.int .u64 DL) wo)) (by kernel_rfl) ⟨Own.dr hO, bdr hZ⟩ (fun hG0 => ?_)
          refine wpAnyH_take (i := 0) (oi := _) (v := ?_) rfl (by kernel_rfl) (by kernel_rfl) (by kernel_rfl) (fun _ _ _ h => h) (Or.inl ⟨?_, ?_⟩) hG0 ?_
          rotate_left
          · kernel_rfl
          · (intro W' hSw; obtain ⟨⟨s0, s1, s2, s3⟩, s5⟩ := hSw; go_simp; (try with_reducible rfl))
          (try simp only [List.getElem_toArray])
          (try simp only [List.getElem_cons_succ])
          (try simp only [List.getElem_cons_zero])
          (try simp only [Act.put])
          (try simp only [List.setIfInBounds_toArray])
          (try simp only [List.set_cons_succ])
          (try simp only [List.set_cons_zero])
          refine wpAnyH_take (i := 1) (oi := _) (v := ?_) rfl (by kernel_rfl) (by kernel_rfl) (by kernel_rfl) (fun _ _ _ h => h) (Or.inl ⟨?_, ?_⟩) hG0 ?_
          rotate_left
          · kernel_rfl
          · (intro W' hSw; obtain ⟨⟨s0, s1, s2, s3⟩, s5⟩ := hSw; go_simp; (try with_reducible rfl))
          (try simp only [List.getElem_toArray])
          (try simp only [List.getElem_cons_succ])
          (try simp only [List.getElem_cons_zero])
          (try simp only [Act.put])
          (try simp only [List.setIfInBounds_toArray])
          (try simp only [List.set_cons_succ])
          (try simp only [List.set_cons_zero])
          refine wpAnyH_ready (rs := [2]) (by kernel_rfl) (by simp) ?_
          refine AllReadyH.cons (o := _) rfl (fun K hK => ?_) AllReadyH.nil
          go_simp
          refine (OF1.out _).mono ?_
          rintro e W1 ⟨rfl, hk⟩
          refine hK.out _ _ (hG0.keep hk) (fun hG1 => ?_)
          clear hK K
          (try simp only [List.getElem_toArray])
          (try simp only [List.getElem_cons_succ])
          (try simp only [List.getElem_cons_zero])
          (try simp only [Act.put])
          (try simp only [List.setIfInBounds_toArray])
          (try simp only [List.set_cons_succ])
          (try simp only [List.set_cons_zero])
          refine wpAnyH_ready (rs := [3]) (by kernel_rfl) (by simp) ?_
          refine AllReadyH.cons (o := _) rfl (fun K hK => ?_) AllReadyH.nil
          go_simp
          refine (CM1.out _).mono ?_
          rintro e W2 ⟨rfl, hk2⟩
          refine hK.out _ _ (hG1.keep hk2) (fun hG2 => ?_)
          clear hK K
          (try simp only [List.getElem_toArray])
          (try simp only [List.getElem_cons_succ])
          (try simp only [List.getElem_cons_zero])
          (try simp only [Act.put])
          (try simp only [List.setIfInBounds_toArray])
          (try simp only [List.set_cons_succ])
          (try simp only [List.set_cons_zero])
          refine wpAnyH_take (i := 4) (oi := _) (v := ?_) rfl (by kernel_rfl) (by kernel_rfl) (by kernel_rfl) (fun _ _ _ h => h) (Or.inl ⟨?_, ?_⟩) hG2 ?_
          rotate_left
          · kernel_rfl
          · (intro W' hSw; obtain ⟨⟨s0, s1, s2, s3⟩, s5⟩ := hSw; go_simp; (try with_reducible rfl))
          (try simp only [List.getElem_toArray])
          (try simp only [List.getElem_cons_succ])
          (try simp only [List.getElem_cons_zero])
          (try simp only [Act.put])
          (try simp only [List.setIfInBounds_toArray])
          (try simp only [List.set_cons_succ])
          (try simp only [List.set_cons_zero])
          refine wpAnyH_take (i := 5) (oi := _) (v := ?_) rfl (by kernel_rfl) (by kernel_rfl) (by kernel_rfl) (fun _ _ _ h => h) (Or.inl ⟨?_, ?_⟩) hG2 ?_
          rotate_left
          · kernel_rfl
          · (intro W' hSw; obtain ⟨⟨s0, s1, s2, s3⟩, s5⟩ := hSw; go_simp; (try with_reducible rfl))
          (try simp only [List.getElem_toArray])
          (try simp only [List.getElem_cons_succ])
          (try simp only [List.getElem_cons_zero])
          (try simp only [Act.put])
          (try simp only [List.setIfInBounds_toArray])
          (try simp only [List.set_cons_succ])
          (try simp only [List.set_cons_zero])
          refine wpAnyH_take (i := 6) (oi := _) (v := ?_) rfl (by kernel_rfl) (by kernel_rfl) (by kernel_rfl) (fun _ _ _ h => h) (Or.inl ⟨?_, ?_⟩) hG2 ?_
          rotate_left
          · kernel_rfl
          · (intro W' hSw; obtain ⟨⟨s0, s1, s2, s3⟩, s5⟩ := hSw; go_simp; (try with_reducible rfl))
          (try simp only [List.getElem_toArray])
          (try simp only [List.getElem_cons_succ])
          (try simp only [List.getElem_cons_zero])
          (try simp only [Act.put])
          (try simp only [List.setIfInBounds_toArray])
          (try simp only [List.set_cons_succ])
          (try simp only [List.set_cons_zero])
          refine wpAnyH_take (i := 7) (oi := _) (v := ?_) rfl (by kernel_rfl) (by kernel_rfl) (by kernel_rfl) (fun _ _ _ h => h) (Or.inl ⟨?_, ?_⟩) hG2 ?_
          rotate_left
          · kernel_rfl
          · (intro W' hSw; obtain ⟨⟨s0, s1, s2, s3⟩, s5⟩ := hSw; go_simp; (try with_reducible rfl))
          (try simp only [List.getElem_toArray])
          (try simp only [List.getElem_cons_succ])
          (try simp only [List.getElem_cons_zero])
          (try simp only [Act.put])
          (try simp only [List.setIfInBounds_toArray])
          (try simp only [List.set_cons_succ])
          (try simp only [List.set_cons_zero])
          refine wpAnyH_take (i := 8) (oi := _) (v := ?_) rfl (by kernel_rfl) (by kernel_rfl) (by kernel_rfl) (fun _ _ _ h => h) (Or.inl ⟨?_, ?_⟩) hG2 ?_
          rotate_left
          · kernel_rfl
          · (intro W' hSw; obtain ⟨⟨s0, s1, s2, s3⟩, s5⟩ := hSw; go_simp; (try with_reducible rfl))
          (try simp only [List.getElem_toArray])
          (try simp only [List.getElem_cons_succ])
          (try simp only [List.getElem_cons_zero])
          (try simp only [Act.put])
          (try simp only [List.setIfInBounds_toArray])
          (try simp only [List.set_cons_succ])
          (try simp only [List.set_cons_zero])
          refine wpAnyH_ready (rs := [9]) (by kernel_rfl) (by simp) ?_
          refine AllReadyH.cons (o := _) rfl (fun K hK => ?_) AllReadyH.nil
          go_simp
          refine (OF2.out _).mono ?_
          rintro e W3 ⟨rfl, hk3⟩
          refine hK.out _ _ (hG2.keep hk3) (fun hG3 => ?_)
          clear hK K
          (try simp only [List.getElem_toArray])
          (try simp only [List.getElem_cons_succ])
          (try simp only [List.getElem_cons_zero])
          (try simp only [Act.put])
          (try simp only [List.setIfInBounds_toArray])
          (try simp only [List.set_cons_succ])
          (try simp only [List.set_cons_zero])
          refine wpAnyH_ready (rs := [10]) (by kernel_rfl) (by simp) ?_
          refine AllReadyH.cons (o := _) rfl (fun K hK => ?_) AllReadyH.nil
          go_simp
          refine (CM2.out _).mono ?_
          rintro e W4 ⟨rfl, hk4⟩
          refine hK.out _ _ (hG3.keep hk4) (fun hG4 => ?_)
          clear hK K
          (try simp only [List.getElem_toArray])
          (try simp only [List.getElem_cons_succ])
          (try simp only [List.getElem_cons_zero])
          (try simp only [Act.put])
          (try simp only [List.setIfInBounds_toArray])
          (try simp only [List.set_cons_succ])
          (try simp only [List.set_cons_zero])
          refine wpAnyH_take (i := 11) (oi := _) (v := ?_) rfl (by kernel_rfl) (by kernel_rfl) (by kernel_rfl) (fun _ _ _ h => h) (Or.inl ⟨?_, ?_⟩) hG4 ?_
          rotate_left
          · kernel_rfl
          · (intro W' hSw; obtain ⟨⟨s0, s1, s2, s3⟩, s5⟩ := hSw; go_simp; (try with_reducible rfl))
          (try simp only [List.getElem_toArray])
          (try simp only [List.getElem_cons_succ])
          (try simp only [List.getElem_cons_zero])
          (try simp only [Act.put])
          (try simp only [List.setIfInBounds_toArray])
          (try simp only [List.set_cons_succ])
          (try simp only [List.set_cons_zero])
          refine wpAnyH_take (i := 12) (oi := _) (v := ?_) rfl (by kernel_rfl) (by kernel_rfl) (by kernel_rfl) (fun _ _ _ h => h) (Or.inl ⟨?_, ?_⟩) hG4 ?_
          rotate_left
          · kernel_rfl
          · (intro W' hSw; obtain ⟨⟨s0, s1, s2, s3⟩, s5⟩ := hSw; go_simp; (try with_reducible rfl))
          (try simp only [List.getElem_toArray])
          (try simp only [List.getElem_cons_succ])
          (try simp only [List.getElem_cons_zero])
          (try simp only [Act.put])
          (try simp only [List.setIfInBounds_toArray])
          (try simp only [List.set_cons_succ])
          (try simp only [List.set_cons_zero])
          refine wpAnyH_done (by kernel_rfl) ?_ _
          have ZE := hG4.2
          have hcl := keepc ZE HCL.out
          clear hk hk2 hk3 hk4 hG0 hG1 hG2 hG3 hG4 o0 o1 o2 o3 hO lO hZ OF1 OF2 CM1 CM2
          go_wp2_with fail
          go_roundg (n - (k + 1))
          case measure => omega
          case rel => exact ⟨k + 1, by omega, rfl, by go_num, by rw [HSX.out, HPP.out], hY.keep ZE, btr hB ZE⟩
    · have hkn : k = n := by omega
      subst hkn
      have HE : Hid (sumI (PL.take k) = a) := Lib.hid (by rw [List.take_of_length_le (by rw [HFL.out]; exact Nat.le_refl _)]; exact FS.out)
      have HE := HE.out
      simp only [HE]
      clear HE hlt
      go_wp2_with fail
      refine (L _ (hch.keep hB)).mono ?_
      rintro e w4 ⟨rfl, q4⟩
      have Z4 := btr hB q4
      go_wp2_with fail
      go_ret
      exact ⟨rfl, Z4⟩
end Go.Proofs.YtjhfbnndapopgaaDoor
