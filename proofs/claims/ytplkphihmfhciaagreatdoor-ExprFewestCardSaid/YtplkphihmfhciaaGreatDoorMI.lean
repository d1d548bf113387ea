/-
  Merged: The chapter's examples: plain; the law's name and op. live: the chapter's examples.
-/
import Derived.Test.YtplkphihmfhciaaGreatDoorMH
import Derived.Test.YtplkphihmfhciaaGreatDoorMB
import Derived.Test.YtplkphihmfhciaaGreatDoorMK
import Derived.Test.YtplkphihmfhciaaGreatDoorEH
/- The chapter's examples: plain; the law's name and op. -/
namespace Go.Proofs.YtplkphihmfhciaaGreatDoor
open Go Go.RowKit Go.Lib Go.Shelf WM TM EM

def la : Ex := .mk 4 0 [97] []
def lb : Ex := .mk 4 0 [98] []
def lc : Ex := .mk 4 0 [99] []
def lx1 : Ex := .mk 5 0 [] [la, lb]
def lx : Ex := .mk 7 0 [] [lx1, lc]
def lt : List Tok := [tk 4 [40], tk 1 [97], tk 4 [43], tk 1 [98], tk 4 [41], tk 4 [42], tk 1 [99]]
def lmin : Ex := .mk 4 0 wMin []
theorem lx_v : vE lx = 0 := by decide
theorem lx1_v : vE lx1 = 0 := by decide
theorem lmin_v : vE lmin = 4 := by decide
theorem lx_t : gT lx = lt := by unfold gT; rw [lx_v]; rfl
theorem lx_r : right lx = true := by decide
theorem lx1_r : right lx1 = true := by decide
theorem lp0 : E 0 (lt.drop 0) (.ok lx 6 []) := by
 have h := reads_again lx lx_r [] (by decide)
 exact h
theorem lp1 : E 0 (lt.drop 1) (.ok lx1 5 [tk 4 [41], tk 4 [42], tk 1 [99]]) := reads_again lx1 lx1_r [tk 4 [41], tk 4 [42], tk 1 [99]] (by decide)
theorem lp2 : E 0 (([tk 1 [97], tk 4 [43]] : List Tok).drop 0) (.bad []) := ⟨10, by kernel_rfl⟩
theorem lx_s : siz lx = 5 := by decide
theorem lx_nm {l : List Tx} (h : NmS lx l) : l = [[97], [98], [99]] := by
 refine asc_ext h.1 (by decide) fun s => ?_
 rw [h.2]
 have e : nmL (EM.pre lx) = [[97], [98], [99]] := by decide
 rw [e]
theorem lx_ne : lx ≠ lx1 := by
 intro h
 have := congrArg Ex.op h
 exact absurd this (by decide)
set_option maxRecDepth 100000 in
theorem lname (X : ByteArray) (w : World) :
  Calls Tryz.prog 27 #[.string X] w fun r w' => r = .returned (.agg #[.int .i64 4, .int .i64 0, .string X, .slice none 0 0]) ∧ Below w.heap.size w w' := by
 have z := Zx.new w
 obtain ⟨z0, z1, z2, z3, fz⟩ := z
 go_enter Tryz.func27, Tryz.ntmps27
 go_wp2_with fail
 refine bodyPost_ret (res_expr rfl _ _ _ rfl _ _ _ _ (by simp [go_sem]; rfl) (by simp [go_sem]; rfl) (by simp [go_sem]; rfl) (by simp [go_sem]; rfl)) rfl ?_
 exact ⟨rfl, bal (bref w) _⟩
set_option maxRecDepth 100000 in
theorem lop (o : Int) (so : Option Addr) (m c : Nat) (w : World) :
  Calls Tryz.prog 26 #[.int .i64 o, .slice so m c] w fun r w' => r = .returned (.agg #[.int .i64 o, .int .i64 0, .string ⟨#[]⟩, .slice so m c]) ∧ Below w.heap.size w w' := by
 have z := Zx.new w
 obtain ⟨z0, z1, z2, z3, fz⟩ := z
 go_enter Tryz.func26, Tryz.ntmps26
 go_wp2_with fail
 refine bodyPost_ret (res_expr rfl _ _ _ rfl _ _ _ _ (by simp [go_sem]; rfl) (by simp [go_sem]; rfl) (by simp [go_sem]; rfl) (by simp [go_sem]; rfl)) rfl ?_
 exact ⟨rfl, bal (bref w) _⟩
end Go.Proofs.YtplkphihmfhciaaGreatDoor

/- live: the chapter's examples. -/
namespace Go.Proofs.YtplkphihmfhciaaGreatDoor
open Go Go.RowKit Go.Lib Go.Shelf WM TM EM

theorem tok3 {ao : Option Addr} {W : World} (h : TokensAt ao lt W) : ∃ b off, ao = some ⟨b, off, none⟩ ∧ W.cell? ⟨b, off + 2, none⟩ = some (.string ⟨#[40]⟩) ∧ W.cell? ⟨b, off + 14, none⟩ = some (.string ⟨#[41]⟩) ∧ TokensAt (some ⟨b, off + 3, none⟩) [tk 1 [97], tk 4 [43]] W := by
 obtain ⟨b, off, rfl, hb, _, _, c0⟩ := h 0 (by decide)
 obtain ⟨b4, off4, e4, _, _, _, c4⟩ := h 4 (by decide)
 injection e4 with e4
 injection e4 with e5 e6
 subst e5
 subst e6
 refine ⟨b, off, rfl, c0, c4, fun i hi => ?_⟩
 match i, hi with
 | 0, _ =>
  obtain ⟨b1, off1, e1, _, d1, d2, d3⟩ := h 1 (by decide)
  injection e1 with e1
  injection e1 with e5 e6
  subst e5
  subst e6
  exact ⟨b, off + 3, rfl, hb, d1, d2, d3⟩
 | 1, _ =>
  obtain ⟨b1, off1, e1, _, d1, d2, d3⟩ := h 2 (by decide)
  injection e1 with e1
  injection e1 with e5 e6
  subst e5
  subst e6
  exact ⟨b, off + 3, rfl, hb, by rw [Nat.add_assoc]; exact d1, by rw [Nat.add_assoc off 3]; exact d2, by rw [Nat.add_assoc off 3]; exact d3⟩
theorem lx_two {W : World} : ExprsAt (some ⟨W.heap.size, 0, none⟩) [la, lb] (W.alloc (.cells #[.int .i64 4, .int .i64 0, .string (str [97]), .slice none 0 0, .int .i64 4, .int .i64 0, .string (str [98]), .slice none 0 0] 27)) :=
 (Xa.new (n := W.heap.size) [(la, none, 0), (lb, none, 0)] (by
  intro x hx
  simp only [List.mem_cons, List.not_mem_nil, or_false] at hx
  rcases hx with rfl | rfl <;> exact ⟨Xa.nil _ _ _, fun _ => rfl⟩) (Nat.le_refl _) 27).ex
theorem lx_all {W : World} {so : Option Addr} {cap : Nat} (h : ExprsAt so [la, lb] W) (hs : so = none → cap = 0) : Lies (lx, some ⟨W.heap.size, 0, none⟩, 2) (W.alloc (.cells #[.int .i64 5, .int .i64 0, .string (str []), .slice so 2 cap, .int .i64 4, .int .i64 0, .string (str [99]), .slice none 0 0] 27)) := by
 have hal := bal (bref W) (.cells #[.int .i64 5, .int .i64 0, .string (str []), .slice so 2 cap, .int .i64 4, .int .i64 0, .string (str [99]), .slice none 0 0] 27)
 have h1 := h.keep hal
 have hc : ∀ j, (W.alloc (.cells #[.int .i64 5, .int .i64 0, .string (str []), .slice so 2 cap, .int .i64 4, .int .i64 0, .string (str [99]), .slice none 0 0] 27)).cell? ⟨W.heap.size, j, none⟩ = (#[.int .i64 5, .int .i64 0, .string (str []), .slice so 2 cap, .int .i64 4, .int .i64 0, .string (str [99]), .slice none 0 0] : Array Value)[j]? := fun j => World.cell?_alloc_new _ _ _ j
 have hsz : W.heap.size < (W.alloc (.cells #[.int .i64 5, .int .i64 0, .string (str []), .slice so 2 cap, .int .i64 4, .int .i64 0, .string (str [99]), .slice none 0 0] 27)).heap.size := by simp
 refine ⟨ExprsAt.mk fun i hi => ?_, fun h => by cases h⟩
 match i, hi with
 | 0, _ => exact ⟨W.heap.size, 0, so, cap, rfl, hsz, hc 0, hc 1, hc 2, hc 3, h1, hs⟩
 | 1, _ => exact ⟨W.heap.size, 0, none, 0, rfl, hsz, hc 4, hc 5, hc 6, hc 7, ExprsAt.nil _ _, fun _ => rfl⟩
theorem tx3 (W : World) (t : TypeId) : TxAt (some ⟨W.heap.size, 0, none⟩) [[97], [98], [99]] (W.alloc (.cells #[.string (str [97]), .string (str [98]), .string (str [99])] t)) := by
 have hc : ∀ j, (W.alloc (.cells #[.string (str [97]), .string (str [98]), .string (str [99])] t)).cell? ⟨W.heap.size, j, none⟩ = (#[.string (str [97]), .string (str [98]), .string (str [99])] : Array Value)[j]? := fun j => World.cell?_alloc_new _ _ _ j
 intro i hi
 match i, hi with
 | 0, _ => exact ⟨W.heap.size, 0, rfl, by simp, hc 0⟩
 | 1, _ => exact ⟨W.heap.size, 0, rfl, by simp, hc 1⟩
 | 2, _ => exact ⟨W.heap.size, 0, rfl, by simp, hc 2⟩
theorem mtok_lx (so : Option Addr) (cap : Nat) (w : World) (hG : Gf w) (hL : Lies (lx, so, cap) w) :
  Calls Tryz.prog 14 #[.agg #[.int .i64 lx.op, .int .i64 lx.n, .string (str lx.s), .slice so lx.args.length cap]] w fun r w' =>
   ∃ ao c, r = .returned (.tuple #[.slice ao 7 c, .int .i64 0]) ∧ 7 ≤ c ∧ TokensAt ao lt w' ∧ Below w.heap.size w w' := by
 refine (mtokens lx so cap w hG hL).mono ?_
 rintro r w' ⟨ao, c, h1, h2, h3, h4⟩
 rw [lx_t] at h1 h2 h3
 rw [lx_v] at h1
 exact ⟨ao, c, h1, h2, h3, h4⟩
theorem lt_txt : ∀ t ∈ lt, t.2.2.length ≤ 1000000 := by
 intro t ht
 simp only [lt, List.mem_cons, List.not_mem_nil, or_false] at ht
 rcases ht with rfl | rfl | rfl | rfl | rfl | rfl | rfl <;> decide
theorem l2_txt : ∀ t ∈ ([tk 1 [97], tk 4 [43]] : List Tok), t.2.2.length ≤ 1000000 := by
 intro t ht
 simp only [List.mem_cons, List.not_mem_nil, or_false] at ht
 rcases ht with rfl | rfl <;> decide
theorem mp0 (ao : Option Addr) (c : Nat) (w : World) (hG : Gf w) (hS : Es w) (hT : TokensAt ao lt w) :
  Calls Tryz.prog 10 #[.slice ao 7 c, .int .i64 0] w fun r w' => ∃ so cap, r = .returned (.tuple #[vx lx so cap, .int .i64 7, .int .i64 0]) ∧ Lies (lx, so, cap) w' ∧ Below w.heap.size w w' :=
 mparse_ok0 ao c lt 0 (by decide) w hG hS hT (by decide) lt_txt lx 6 [] lp0 lx_v
theorem mp1 (ao : Option Addr) (c : Nat) (w : World) (hG : Gf w) (hS : Es w) (hT : TokensAt ao lt w) :
  Calls Tryz.prog 10 #[.slice ao 7 c, .int .i64 1] w fun r w' => ∃ so cap, r = .returned (.tuple #[vx lx1 so cap, .int .i64 4, .int .i64 0]) ∧ Lies (lx1, so, cap) w' ∧ Below w.heap.size w w' :=
 mparse_ok0 ao c lt 1 (by decide) w hG hS hT (by decide) lt_txt lx1 5 _ lp1 lx1_v
theorem mp2 (ao : Option Addr) (c : Nat) (w : World) (hG : Gf w) (hS : Es w) (hT : TokensAt ao [tk 1 [97], tk 4 [43]] w) :
  Calls Tryz.prog 10 #[.slice ao 2 c, .int .i64 0] w fun r w' => ∃ so cap, r = .returned (.tuple #[vx E0 so cap, .int .i64 2, .int .i64 2]) ∧ Lies (E0, so, cap) w' ∧ Below w.heap.size w w' :=
 mparse_bad ao c [tk 1 [97], tk 4 [43]] 0 (by decide) w hG hS hT (by decide) l2_txt [] lp2
theorem mval_min (w : World) (hG : Gf w) :
  Calls Tryz.prog 17 #[.agg #[.int .i64 4, .int .i64 0, .string ⟨#[109, 105, 110]⟩, .slice none 0 0]] w fun r w' => r = .returned (.int .i64 4) ∧ Below w.heap.size w w' := by
 have h := mvalidate lmin none 0 w hG.1 ⟨ExprsAt.nil _ _, fun _ => rfl⟩
 rw [lmin_v] at h
 exact h
theorem mnodes5 (so : Option Addr) (cap : Nat) (w : World) (hL : Lies (lx, so, cap) w) :
  Calls Tryz.prog 19 #[.agg #[.int .i64 lx.op, .int .i64 lx.n, .string (str lx.s), .slice so lx.args.length cap]] w fun r w' => r = .returned (.int .i64 5) ∧ Below w.heap.size w w' := by
 have h := mnodes lx so cap w (by rw [lx_s]; decide) hL
 rw [lx_s] at h
 exact h
theorem rsame_xx (so so2 : Option Addr) (cap cap2 : Nat) (w : World) (h : ExprsAt so lx.args w) (h2 : ExprsAt so2 lx.args w) :
  Calls Tryz.prog 12 #[.agg #[.int .i64 lx.op, .int .i64 lx.n, .string (str lx.s), .slice so lx.args.length cap], .agg #[.int .i64 lx.op, .int .i64 lx.n, .string (str lx.s), .slice so2 lx.args.length cap2]] w fun r w' => r = .returned (.bool true) ∧ Below w.heap.size w w' := by
 have h := rsame lx lx so so2 cap cap2 w (by rw [lx_s]; decide) h h2
 rw [same_yes rfl] at h
 exact h
theorem msame_xx (so so2 : Option Addr) (cap cap2 : Nat) (w : World) (h : ExprsAt so lx.args w) (h2 : ExprsAt so2 lx.args w) :
  Calls Tryz.prog 24 #[.agg #[.int .i64 lx.op, .int .i64 lx.n, .string (str lx.s), .slice so lx.args.length cap], .agg #[.int .i64 lx.op, .int .i64 lx.n, .string (str lx.s), .slice so2 lx.args.length cap2]] w fun r w' => r = .returned (.bool true) ∧ Below w.heap.size w w' := by
 have h := msame lx lx so so2 cap cap2 w (by rw [lx_s]; decide) h h2
 rw [same_yes rfl] at h
 exact h
theorem msame_xz (so so2 : Option Addr) (cap cap2 : Nat) (w : World) (h : ExprsAt so lx.args w) (h2 : ExprsAt so2 lx1.args w) :
  Calls Tryz.prog 24 #[.agg #[.int .i64 lx.op, .int .i64 lx.n, .string (str lx.s), .slice so lx.args.length cap], .agg #[.int .i64 lx1.op, .int .i64 lx1.n, .string (str lx1.s), .slice so2 lx1.args.length cap2]] w fun r w' => r = .returned (.bool false) ∧ Below w.heap.size w w' := by
 have h := msame lx lx1 so so2 cap cap2 w (by rw [lx_s]; decide) h h2
 rw [same_no lx_ne] at h
 exact h
set_option maxRecDepth 100000 in
set_option maxHeartbeats 4000000 in
theorem mlive (w0 : World) (hG : Gf w0) (hS : Es w0) :
  Calls Tryz.prog 9 #[] w0 fun r w' => r = .returned (.bool true) ∧ Below w0.heap.size w0 w' := by
 have HG := Lib.hid hG
 have HS := Lib.hid hS
 have HB0 := Lib.hid (bref w0)
 clear hG hS
 go_enter Tryz.func9, Tryz.ntmps9
 go_wp2_with fail
 refine (lname _ _).mono ?_
 rintro r w1 ⟨rfl, hb⟩
 have HB1 := Lib.hid (btr HB0.out hb)
 clear hb
 go_wp2_with fail
 refine (lname _ _).mono ?_
 rintro r w2 ⟨rfl, hb⟩
 have HB2 := Lib.hid (btr HB1.out hb)
 clear hb
 have A2 := Lib.hid (lx_two (W := w2))
 go_wp2_with fail
 refine (lop _ _ _ _ _).mono ?_
 rintro r w3 ⟨rfl, hb⟩
 have HB3 := Lib.hid (btr HB2.out (btr (bal (bref _) _) hb))
 have A3 := Lib.hid (A2.out.keep hb)
 clear hb
 go_wp2_with fail
 refine (lname _ _).mono ?_
 rintro r w4 ⟨rfl, hb⟩
 have HB4 := Lib.hid (btr HB3.out hb)
 have A4 := Lib.hid (A3.out.keep hb)
 clear hb
 have X4 := Lib.hid (lx_all (W := w4) (cap := 2) A4.out (fun h => by cases h))
 go_wp2_with fail
 refine (lop _ _ _ _ _).mono ?_
 rintro r w5 ⟨rfl, hb⟩
 have HB5 := Lib.hid (btr HB4.out (btr (bal (bref _) _) hb))
 have A5 := Lib.hid (A4.out.keep (btr (bal (bref _) _) hb))
 have X5 := Lib.hid (X4.out.keep hb)
 clear hb
 have VX5 := Lib.hid (bx_vx w5 lx (some ⟨w4.heap.size, 0, none⟩) 2)
 go_wp2_with fail
 refine (mtok_lx (some ⟨w4.heap.size, 0, none⟩) 2 _ (HG.out.keep (btr HB5.out (bal (bref _) _))) (X5.out.keep (bal (bref _) _))).mono ?_
 rintro r w6 ⟨ao, c, rfl, hc7, ht, hb⟩
 have HB6 := Lib.hid (btr HB5.out (btr (bal (bref _) _) hb))
 have A6 := Lib.hid (A5.out.keep (btr (bal (bref _) _) hb))
 have X6 := Lib.hid (X5.out.keep (btr (bal (bref _) _) hb))
 have VX6 := Lib.hid (VX5.out.below hb)
 clear hb
 obtain ⟨tb, tf, rfl, q0, q4, ht2⟩ := tok3 ht
 have TT6 := Lib.hid (ht)
 have TU6 := Lib.hid (ht2)
 clear ht ht2
 go_wp2_with fail
 refine (mp0 _ _ _ (HG.out.keep HB6.out) (HS.out.keep HB6.out) TT6.out).mono ?_
 rintro r w7 ⟨soy, capy, rfl, hly, hb⟩
 have HB7 := Lib.hid (btr HB6.out hb)
 have A7 := Lib.hid (A6.out.keep hb)
 have X7 := Lib.hid (X6.out.keep hb)
 have VX7 := Lib.hid (VX6.out.below hb)
 have TT7 := Lib.hid (TT6.out.keep hb)
 have TU7 := Lib.hid (TU6.out.keep hb)
 have LY7 := Lib.hid hly
 clear hly q0 q4
 clear hb
 unfold vx
 have VY7 := Lib.hid (bx_vx w7 lx soy capy)
 go_wp2_with fail
 refine (mp2 _ _ _ (HG.out.keep (btr HB7.out (bal (bref _) _))) (HS.out.keep (btr HB7.out (bal (bref _) _))) (TU7.out.keep (bal (bref _) _))).mono ?_
 rintro r w8 ⟨soe, cape, rfl, hle, hb⟩
 have HB8 := Lib.hid (btr HB7.out (btr (bal (bref _) _) hb))
 have A8 := Lib.hid (A7.out.keep (btr (bal (bref _) _) hb))
 have X8 := Lib.hid (X7.out.keep (btr (bal (bref _) _) hb))
 have VX8 := Lib.hid (VX7.out.below (btr (bal (bref _) _) hb))
 have TT8 := Lib.hid (TT7.out.keep (btr (bal (bref _) _) hb))
 have TU8 := Lib.hid (TU7.out.keep (btr (bal (bref _) _) hb))
 have LY8 := Lib.hid (LY7.out.keep (btr (bal (bref _) _) hb))
 have VY8 := Lib.hid (VY7.out.below hb)
 clear hle hc7
 clear hb
 unfold vx
 go_wp2_with fail
 refine (mp1 _ _ _ (HG.out.keep (btr HB8.out (bal (bref _) _))) (HS.out.keep (btr HB8.out (bal (bref _) _))) (TT8.out.keep (bal (bref _) _))).mono ?_
 rintro r w9 ⟨soz, capz, rfl, hlz, hb⟩
 have HB9 := Lib.hid (btr HB8.out (btr (bal (bref _) _) hb))
 have A9 := Lib.hid (A8.out.keep (btr (bal (bref _) _) hb))
 have X9 := Lib.hid (X8.out.keep (btr (bal (bref _) _) hb))
 have VX9 := Lib.hid (VX8.out.below (btr (bal (bref _) _) hb))
 have TT9 := Lib.hid (TT8.out.keep (btr (bal (bref _) _) hb))
 have TU9 := Lib.hid (TU8.out.keep (btr (bal (bref _) _) hb))
 have LY9 := Lib.hid (LY8.out.keep (btr (bal (bref _) _) hb))
 have VY9 := Lib.hid (VY8.out.below (btr (bal (bref _) _) hb))
 have LZ9 := Lib.hid hlz
 clear hlz
 clear hb
 unfold vx
 have VZ9 := Lib.hid (bx_vx w9 lx1 soz capz)
 obtain ⟨x0, x1, x2, x3, xf⟩ := (VX9.out.below (bx_below w9 lx1 soz capz))
 obtain ⟨y0, y1, y2, y3, yf⟩ := (VY9.out.below (bx_below w9 lx1 soz capz))
 obtain ⟨u0, u1, u2, u3, uf⟩ := VZ9.out
 unfold bx at x0 x1 x2 x3 xf y0 y1 y2 y3 yf u0 u1 u2 u3 uf
 go_wp2_with fail
 refine (rsame_xx _ _ _ _ _ (X9.out.1.keep (bal (bref _) _)) (LY9.out.1.keep (bal (bref _) _))).mono ?_
 rintro r w10 ⟨rfl, hb⟩
 have HB10 := Lib.hid (btr HB9.out (btr (bal (bref _) _) hb))
 have X10 := Lib.hid (X9.out.keep (btr (bal (bref _) _) hb))
 have VX10 := Lib.hid (VX9.out.below (btr (bal (bref _) _) hb))
 have LY10 := Lib.hid (LY9.out.keep (btr (bal (bref _) _) hb))
 have VY10 := Lib.hid (VY9.out.below (btr (bal (bref _) _) hb))
 have LZ10 := Lib.hid (LZ9.out.keep (btr (bal (bref _) _) hb))
 have VZ10 := Lib.hid (VZ9.out.below hb)
 clear hb
 clear x0 x1 x2 x3 xf y0 y1 y2 y3 yf u0 u1 u2 u3 uf
 obtain ⟨x0, x1, x2, x3, xf⟩ := VX10.out
 obtain ⟨y0, y1, y2, y3, yf⟩ := VY10.out
 obtain ⟨u0, u1, u2, u3, uf⟩ := VZ10.out
 go_wp2_with fail
 refine (mnodes5 _ _ _ X10.out).mono ?_
 rintro r w11 ⟨rfl, hb⟩
 have HB11 := Lib.hid (btr HB10.out hb)
 have X11 := Lib.hid (X10.out.keep hb)
 have VX11 := Lib.hid (VX10.out.below hb)
 have LY11 := Lib.hid (LY10.out.keep hb)
 have VY11 := Lib.hid (VY10.out.below hb)
 have LZ11 := Lib.hid (LZ10.out.keep hb)
 have VZ11 := Lib.hid (VZ10.out.below hb)
 clear hb
 clear x0 x1 x2 x3 xf y0 y1 y2 y3 yf u0 u1 u2 u3 uf
 obtain ⟨x0, x1, x2, x3, xf⟩ := VX11.out
 obtain ⟨y0, y1, y2, y3, yf⟩ := VY11.out
 obtain ⟨u0, u1, u2, u3, uf⟩ := VZ11.out
 go_wp2_with fail
 refine (mnames lx _ _ _ (by rw [lx_s]; decide) X11.out).mono ?_
 rintro r w12 ⟨nl, nao, nc, rfl, hN, _, hTx, hb⟩
 have HB12 := Lib.hid (btr HB11.out hb)
 have X12 := Lib.hid (X11.out.keep hb)
 have VX12 := Lib.hid (VX11.out.below hb)
 have LY12 := Lib.hid (LY11.out.keep hb)
 have VY12 := Lib.hid (VY11.out.below hb)
 have LZ12 := Lib.hid (LZ11.out.keep hb)
 have VZ12 := Lib.hid (VZ11.out.below hb)
 have hnl := lx_nm hN
 subst hnl
 have TX12 := Lib.hid hTx
 clear hTx hN
 clear hb
 clear x0 x1 x2 x3 xf y0 y1 y2 y3 yf u0 u1 u2 u3 uf
 obtain ⟨x0, x1, x2, x3, xf⟩ := VX12.out
 obtain ⟨y0, y1, y2, y3, yf⟩ := VY12.out
 obtain ⟨u0, u1, u2, u3, uf⟩ := VZ12.out
 go_wp2_with fail
 refine (rsameT nao (some ⟨w12.heap.size, 0, none⟩) [[97], [98], [99]] [[97], [98], [99]] nc 3 (by decide) (by decide) _ (TX12.out.keep (bal (bref _) _)) (tx3 w12 _)).mono ?_
 rintro r w13 ⟨rfl, hb⟩
 have HB13 := Lib.hid (btr HB12.out (btr (bal (bref _) _) hb))
 have X13 := Lib.hid (X12.out.keep (btr (bal (bref _) _) hb))
 have VX13 := Lib.hid (VX12.out.below (btr (bal (bref _) _) hb))
 have LY13 := Lib.hid (LY12.out.keep (btr (bal (bref _) _) hb))
 have VY13 := Lib.hid (VY12.out.below (btr (bal (bref _) _) hb))
 have LZ13 := Lib.hid (LZ12.out.keep (btr (bal (bref _) _) hb))
 have VZ13 := Lib.hid (VZ12.out.below (btr (bal (bref _) _) hb))
 have TX13 := Lib.hid (TX12.out.keep (btr (bal (bref _) _) hb))
 clear hb
 clear x0 x1 x2 x3 xf y0 y1 y2 y3 yf u0 u1 u2 u3 uf
 obtain ⟨x0, x1, x2, x3, xf⟩ := VX13.out
 obtain ⟨y0, y1, y2, y3, yf⟩ := VY13.out
 obtain ⟨u0, u1, u2, u3, uf⟩ := VZ13.out
 go_wp2_with fail
 refine (lname _ _).mono ?_
 rintro r w14 ⟨rfl, hb⟩
 have HB14 := Lib.hid (btr HB13.out hb)
 have X14 := Lib.hid (X13.out.keep hb)
 have VX14 := Lib.hid (VX13.out.below hb)
 have LY14 := Lib.hid (LY13.out.keep hb)
 have VY14 := Lib.hid (VY13.out.below hb)
 have LZ14 := Lib.hid (LZ13.out.keep hb)
 have VZ14 := Lib.hid (VZ13.out.below hb)
 have TX14 := Lib.hid (TX13.out.keep hb)
 clear hb
 clear x0 x1 x2 x3 xf y0 y1 y2 y3 yf u0 u1 u2 u3 uf
 obtain ⟨x0, x1, x2, x3, xf⟩ := VX14.out
 obtain ⟨y0, y1, y2, y3, yf⟩ := VY14.out
 obtain ⟨u0, u1, u2, u3, uf⟩ := VZ14.out
 go_wp2_with fail
 refine (mval_min _ (HG.out.keep HB14.out)).mono ?_
 rintro r w15 ⟨rfl, hb⟩
 have HB15 := Lib.hid (btr HB14.out hb)
 have X15 := Lib.hid (X14.out.keep hb)
 have VX15 := Lib.hid (VX14.out.below hb)
 have LY15 := Lib.hid (LY14.out.keep hb)
 have VY15 := Lib.hid (VY14.out.below hb)
 have LZ15 := Lib.hid (LZ14.out.keep hb)
 have VZ15 := Lib.hid (VZ14.out.below hb)
 have TX15 := Lib.hid (TX14.out.keep hb)
 clear hb
 clear x0 x1 x2 x3 xf y0 y1 y2 y3 yf u0 u1 u2 u3 uf
 obtain ⟨x0, x1, x2, x3, xf⟩ := VX15.out
 obtain ⟨y0, y1, y2, y3, yf⟩ := VY15.out
 obtain ⟨u0, u1, u2, u3, uf⟩ := VZ15.out
 go_wp2_with fail
 refine (msame_xx _ _ _ _ _ X15.out.1 LY15.out.1).mono ?_
 rintro r w16 ⟨rfl, hb⟩
 have HB16 := Lib.hid (btr HB15.out hb)
 have X16 := Lib.hid (X15.out.keep hb)
 have VX16 := Lib.hid (VX15.out.below hb)
 have LY16 := Lib.hid (LY15.out.keep hb)
 have VY16 := Lib.hid (VY15.out.below hb)
 have LZ16 := Lib.hid (LZ15.out.keep hb)
 have VZ16 := Lib.hid (VZ15.out.below hb)
 have TX16 := Lib.hid (TX15.out.keep hb)
 clear hb
 clear x0 x1 x2 x3 xf y0 y1 y2 y3 yf u0 u1 u2 u3 uf
 obtain ⟨x0, x1, x2, x3, xf⟩ := VX16.out
 obtain ⟨y0, y1, y2, y3, yf⟩ := VY16.out
 obtain ⟨u0, u1, u2, u3, uf⟩ := VZ16.out
 go_wp2_with fail
 refine (msame_xz _ _ _ _ _ X16.out.1 LZ16.out.1).mono ?_
 rintro r w17 ⟨rfl, hb⟩
 have HB17 := Lib.hid (btr HB16.out hb)
 have X17 := Lib.hid (X16.out.keep hb)
 have VX17 := Lib.hid (VX16.out.below hb)
 have LY17 := Lib.hid (LY16.out.keep hb)
 have VY17 := Lib.hid (VY16.out.below hb)
 have LZ17 := Lib.hid (LZ16.out.keep hb)
 have VZ17 := Lib.hid (VZ16.out.below hb)
 have TX17 := Lib.hid (TX16.out.keep hb)
 clear hb
 clear x0 x1 x2 x3 xf y0 y1 y2 y3 yf u0 u1 u2 u3 uf
 go_wp2_with fail
 go_ret
 exact ⟨rfl, HB17.out⟩
end Go.Proofs.YtplkphihmfhciaaGreatDoor
