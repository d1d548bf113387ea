/-
  Merged: The chapter's examples: the law's sample and lives. lives: the program reproduces the chapter's examples.
-/
import Derived.Test.YthanoilbcdhbkaaGreatDoorQL
import Derived.Test.YthanoilbcdhbkaaGreatDoorQKG
namespace Go.Proofs.YthanoilbcdhbkaaGreatDoor
open Go Go.RowKit Go.Lib Go.Shelf WM TM EM YM

theorem res_ex2 {fn : Func} {p u : Tmp} (h : fn.results = #[.cell p 24, .tmp u]) (tmps : Array Value) (w : World) (b : Nat) (hp : tmps.getD p undef = .pointer (some ⟨b, 0, none⟩)) (y : Value) (hu : tmps.getD u undef = y) (x0 x1 x2 x3 : Value) (h0 : w.cell? ⟨b, 0, none⟩ = some x0) (h1 : w.cell? ⟨b, 1, none⟩ = some x1) (h2 : w.cell? ⟨b, 2, none⟩ = some x2) (h3 : w.cell? ⟨b, 3, none⟩ = some x3) :
  (results fn tmps).run Tryz.prog w = .ok (.tuple #[.agg #[x0, x1, x2, x3], y]) w := by
 rw [Array.getD_eq_getD_getElem?] at hp hu
 simp [results, h, hp, hu, go_sem, h0, h1, h2, h3]
def sL : Ex := .mk 12 0 [] [.mk 4 0 [97, 103, 101] [], .mk 1 5 [] []]
theorem vars_at2 {W : World} {B : Nat} {v u : Vr} (hB : B < W.heap.size) (h0 : W.cell? ⟨B, 0, none⟩ = some (.string (str v.1))) (h1 : W.cell? ⟨B, 1, none⟩ = some (.int .i64 v.2)) (h2 : W.cell? ⟨B, 2, none⟩ = some (.string (str u.1))) (h3 : W.cell? ⟨B, 3, none⟩ = some (.int .i64 u.2)) : VarsAt (some ⟨B, 0, none⟩) [v, u] W := by
 intro i hi
 match i, hi with
 | 0, _ => exact ⟨B, 0, rfl, hB, by simpa using h0, by simpa using h1⟩
 | 1, _ => exact ⟨B, 0, rfl, hB, by simpa using h2, by simpa using h3⟩
def Four (W : World) (B o : Nat) (e : Ex) (so : Option Addr) (cap : Nat) : Prop := W.cell? ⟨B, o, none⟩ = some (.int .i64 e.op) ∧ W.cell? ⟨B, o + 1, none⟩ = some (.int .i64 e.n) ∧ W.cell? ⟨B, o + 2, none⟩ = some (.string (str e.s)) ∧ W.cell? ⟨B, o + 3, none⟩ = some (.slice so e.args.length cap) ∧ ExprsAt so e.args W ∧ (so = none → cap = 0)
theorem exprs_at2 {W : World} {B : Nat} {a b : Ex} {sa sb : Option Addr} {ca cb : Nat} (hB : B < W.heap.size) (ha : Four W B 0 a sa ca) (hb : Four W B 4 b sb cb) : ExprsAt (some ⟨B, 0, none⟩) [a, b] W := by
 refine ExprsAt.mk fun i hi => ?_
 match i, hi with
 | 0, _ => obtain ⟨h0, h1, h2, h3, h4, h5⟩ := ha; exact ⟨B, 0, sa, ca, rfl, hB, by simpa using h0, by simpa using h1, by simpa using h2, by simpa using h3, h4, h5⟩
 | 1, _ => obtain ⟨h0, h1, h2, h3, h4, h5⟩ := hb; exact ⟨B, 0, sb, cb, rfl, hB, by simpa using h0, by simpa using h1, by simpa using h2, by simpa using h3, h4, h5⟩
theorem exprs_at3 {W : World} {B : Nat} {a b c : Ex} {sa sb sc : Option Addr} {ca cb cc : Nat} (hB : B < W.heap.size) (ha : Four W B 0 a sa ca) (hb : Four W B 4 b sb cb) (hc : Four W B 8 c sc cc) : ExprsAt (some ⟨B, 0, none⟩) [a, b, c] W := by
 refine ExprsAt.mk fun i hi => ?_
 match i, hi with
 | 0, _ => obtain ⟨h0, h1, h2, h3, h4, h5⟩ := ha; exact ⟨B, 0, sa, ca, rfl, hB, by simpa using h0, by simpa using h1, by simpa using h2, by simpa using h3, h4, h5⟩
 | 1, _ => obtain ⟨h0, h1, h2, h3, h4, h5⟩ := hb; exact ⟨B, 0, sb, cb, rfl, hB, by simpa using h0, by simpa using h1, by simpa using h2, by simpa using h3, h4, h5⟩
 | 2, _ => obtain ⟨h0, h1, h2, h3, h4, h5⟩ := hc; exact ⟨B, 0, sc, cc, rfl, hB, by simpa using h0, by simpa using h1, by simpa using h2, by simpa using h3, h4, h5⟩
theorem Four.keep {W W' : World} {B o : Nat} {e : Ex} {so : Option Addr} {cap : Nat} (h : Four W B o e so cap) (hb : Below W.heap.size W W') : Four W' B o e so cap := by
 obtain ⟨h0, h1, h2, h3, h4, h5⟩ := h
 exact ⟨keepc hb h0, keepc hb h1, keepc hb h2, keepc hb h3, h4.keep hb, h5⟩
set_option maxRecDepth 100000 in
set_option maxHeartbeats 4000000 in
theorem lsample (w : World) : Calls Tryz.prog 28 #[] w fun r w' => ∃ so vo, r = .returned (.tuple #[.agg #[.int .i64 19, .int .i64 0, .string ⟨#[]⟩, .slice (some so) 3 3], .slice (some vo) 2 2]) ∧ Lies (sX, some so, 3) w' ∧ VarsAt (some vo) sV w' ∧ Below w.heap.size w w' := by
 go_enter Tryz.func28, Tryz.ntmps28
 go_wp2_with fail
 obtain ⟨W, hW⟩ : ∃ W, (((((w.alloc (.cells #[.int .i64 19, .int .i64 0, .string ⟨#[]⟩, .slice (some ⟨w.heap.size + 1 + 1 + 1, 0, none⟩) 3 3] 24)).alloc (.cells #[.int .i64 4, .int .i64 0, .string ⟨#[97, 103, 101]⟩, .slice none 0 0, .int .i64 1, .int .i64 5, .string ⟨#[]⟩, .slice none 0 0] 24)).alloc (.cells #[.int .i64 12, .int .i64 0, .string ⟨#[]⟩, .slice (some ⟨w.heap.size + 1, 0, none⟩) 2 2] 24)).alloc (.cells #[.int .i64 12, .int .i64 0, .string ⟨#[]⟩, .slice (some ⟨w.heap.size + 1, 0, none⟩) 2 2, .int .i64 2, .int .i64 3, .string ⟨#[]⟩, .slice none 0 0, .int .i64 4, .int .i64 0, .string ⟨#[97, 109, 111, 117, 110, 116]⟩, .slice none 0 0] 24)).alloc (.cells #[.string ⟨#[97, 103, 101]⟩, .int .i64 1, .string ⟨#[97, 109, 111, 117, 110, 116]⟩, .int .i64 2] 57)) = W := ⟨_, rfl⟩
 have HB : Below w.heap.size w W := by rw [← hW]; exact bal (bal (bal (bal (bal (bref w) _) _) _) _) _
 have hs : W.heap.size = w.heap.size + 5 := by rw [← hW]; simp
 have a0 : W.cell? ⟨w.heap.size, 0, none⟩ = some (.int .i64 19) := by rw [← hW]; simp [go_sem]
 have a1 : W.cell? ⟨w.heap.size, 1, none⟩ = some (.int .i64 0) := by rw [← hW]; simp [go_sem]
 have a2 : W.cell? ⟨w.heap.size, 2, none⟩ = some (.string ⟨#[]⟩) := by rw [← hW]; simp [go_sem]
 have a3 : W.cell? ⟨w.heap.size, 3, none⟩ = some (.slice (some ⟨w.heap.size + 1 + 1 + 1, 0, none⟩) 3 3) := by rw [← hW]; simp [go_sem]
 have b0 : W.cell? ⟨w.heap.size + 1, 0, none⟩ = some (.int .i64 4) := by rw [← hW]; simp [go_sem]
 have b1 : W.cell? ⟨w.heap.size + 1, 1, none⟩ = some (.int .i64 0) := by rw [← hW]; simp [go_sem]
 have b2 : W.cell? ⟨w.heap.size + 1, 2, none⟩ = some (.string ⟨#[97, 103, 101]⟩) := by rw [← hW]; simp [go_sem]
 have b3 : W.cell? ⟨w.heap.size + 1, 3, none⟩ = some (.slice none 0 0) := by rw [← hW]; simp [go_sem]
 have b4 : W.cell? ⟨w.heap.size + 1, 4, none⟩ = some (.int .i64 1) := by rw [← hW]; simp [go_sem]
 have b5 : W.cell? ⟨w.heap.size + 1, 5, none⟩ = some (.int .i64 5) := by rw [← hW]; simp [go_sem]
 have b6 : W.cell? ⟨w.heap.size + 1, 6, none⟩ = some (.string ⟨#[]⟩) := by rw [← hW]; simp [go_sem]
 have b7 : W.cell? ⟨w.heap.size + 1, 7, none⟩ = some (.slice none 0 0) := by rw [← hW]; simp [go_sem]
 have d0 : W.cell? ⟨w.heap.size + 1 + 1 + 1, 0, none⟩ = some (.int .i64 12) := by rw [← hW]; simp [go_sem]
 have d1 : W.cell? ⟨w.heap.size + 1 + 1 + 1, 1, none⟩ = some (.int .i64 0) := by rw [← hW]; simp [go_sem]
 have d2 : W.cell? ⟨w.heap.size + 1 + 1 + 1, 2, none⟩ = some (.string ⟨#[]⟩) := by rw [← hW]; simp [go_sem]
 have d3 : W.cell? ⟨w.heap.size + 1 + 1 + 1, 3, none⟩ = some (.slice (some ⟨w.heap.size + 1, 0, none⟩) 2 2) := by rw [← hW]; simp [go_sem]
 have d4 : W.cell? ⟨w.heap.size + 1 + 1 + 1, 4, none⟩ = some (.int .i64 2) := by rw [← hW]; simp [go_sem]
 have d5 : W.cell? ⟨w.heap.size + 1 + 1 + 1, 5, none⟩ = some (.int .i64 3) := by rw [← hW]; simp [go_sem]
 have d6 : W.cell? ⟨w.heap.size + 1 + 1 + 1, 6, none⟩ = some (.string ⟨#[]⟩) := by rw [← hW]; simp [go_sem]
 have d7 : W.cell? ⟨w.heap.size + 1 + 1 + 1, 7, none⟩ = some (.slice none 0 0) := by rw [← hW]; simp [go_sem]
 have d8 : W.cell? ⟨w.heap.size + 1 + 1 + 1, 8, none⟩ = some (.int .i64 4) := by rw [← hW]; simp [go_sem]
 have d9 : W.cell? ⟨w.heap.size + 1 + 1 + 1, 9, none⟩ = some (.int .i64 0) := by rw [← hW]; simp [go_sem]
 have d10 : W.cell? ⟨w.heap.size + 1 + 1 + 1, 10, none⟩ = some (.string ⟨#[97, 109, 111, 117, 110, 116]⟩) := by rw [← hW]; simp [go_sem]
 have d11 : W.cell? ⟨w.heap.size + 1 + 1 + 1, 11, none⟩ = some (.slice none 0 0) := by rw [← hW]; simp [go_sem]
 have v0 : W.cell? ⟨w.heap.size + 1 + 1 + 1 + 1, 0, none⟩ = some (.string ⟨#[97, 103, 101]⟩) := by rw [← hW]; simp [go_sem]
 have v1 : W.cell? ⟨w.heap.size + 1 + 1 + 1 + 1, 1, none⟩ = some (.int .i64 1) := by rw [← hW]; simp [go_sem]
 have v2 : W.cell? ⟨w.heap.size + 1 + 1 + 1 + 1, 2, none⟩ = some (.string ⟨#[97, 109, 111, 117, 110, 116]⟩) := by rw [← hW]; simp [go_sem]
 have v3 : W.cell? ⟨w.heap.size + 1 + 1 + 1 + 1, 3, none⟩ = some (.int .i64 2) := by rw [← hW]; simp [go_sem]
 simp only [hW]
 clear hW
 have x1 : ExprsAt (some ⟨w.heap.size + 1, 0, none⟩) sL.args W := exprs_at2 (by omega) ⟨b0, b1, b2, b3, ExprsAt.nil _ _, fun _ => rfl⟩ ⟨b4, b5, b6, b7, ExprsAt.nil _ _, fun _ => rfl⟩
 have x2 : ExprsAt (some ⟨w.heap.size + 1 + 1 + 1, 0, none⟩) sX.args W := exprs_at3 (by omega) ⟨d0, d1, d2, d3, x1, fun h => by cases h⟩ ⟨d4, d5, d6, d7, ExprsAt.nil _ _, fun _ => rfl⟩ ⟨d8, d9, d10, d11, ExprsAt.nil _ _, fun _ => rfl⟩
 have x3 : VarsAt (some ⟨w.heap.size + 1 + 1 + 1 + 1, 0, none⟩) sV W := vars_at2 (by omega) v0 v1 v2 v3
 refine bodyPost_ret (res_ex2 rfl _ _ _ rfl _ rfl _ _ _ _ a0 a1 a2 a3) rfl ?_
 exact ⟨_, _, rfl, ⟨x2, fun h => by cases h⟩, x3, HB⟩
theorem fits_sC : Fits sC := by unfold Fits; decide
end Go.Proofs.YthanoilbcdhbkaaGreatDoor

namespace Go.Proofs.YthanoilbcdhbkaaGreatDoor
open Go Go.RowKit Go.Lib Go.Shelf WM TM EM YM

theorem comE_s : comE sX sV = 0 := by unfold comE; rw [s_vs, s_of]; rfl
theorem comC_s : comC sX sV = ⟨2, sV, sC⟩ := by unfold comC; rw [comE_s, if_pos rfl, s_of, s_em]
theorem comE_s1 : comE sX (sV.take 1) = 4 := by unfold comE; rw [s_one.2, s_one.1]; rfl
theorem comC_s1 : comC sX (sV.take 1) = ⟨0, [], []⟩ := by unfold comC; rw [comE_s1, if_neg (by decide)]
theorem lCompile (so vo : Addr) (w : World) (hG : Ge w) (hL : Lies (sX, some so, 3) w) (hv : VarsAt (some vo) sV w) :
  Calls Tryz.prog 12 #[.agg #[.int .i64 19, .int .i64 0, .string ⟨#[]⟩, .slice (some so) 3 3], .slice (some vo) 2 2] w fun r w' => ∃ vo vc io ic, r = .returned (.tuple #[.agg #[.int .i64 2, .slice vo 2 vc, .slice io 7 ic], .int .i64 0]) ∧ CodeAt ⟨2, sV, sC⟩ vo vc io ic w' ∧ Below w.heap.size w w' := by
 have h := mCompile sX (some so) 3 sV (some vo) 2 w (by decide) (by decide) hG (by decide) (fun h => by cases h) hv hL
 rw [comE_s, comC_s] at h
 refine Calls.mono h ?_
 rintro r w' ⟨⟨vo', vc, io, ic, rfl, hc⟩, hb⟩
 exact ⟨vo', vc, io, ic, rfl, hc, hb⟩
theorem lCompile1 (so vo : Addr) (w : World) (hG : Ge w) (hL : Lies (sX, some so, 3) w) (hv : VarsAt (some vo) sV w) :
  Calls Tryz.prog 12 #[.agg #[.int .i64 19, .int .i64 0, .string ⟨#[]⟩, .slice (some so) 3 3], .slice (some vo) 1 2] w fun r w' => (∃ vo vc io ic, r = .returned (.tuple #[.agg #[.int .i64 0, .slice vo 0 vc, .slice io 0 ic], .int .i64 4])) ∧ Below w.heap.size w w' := by
 have h := mCompile sX (some so) 3 (sV.take 1) (some vo) 2 w (by decide) (by decide) hG (by decide) (fun h => by cases h) (hv.take 1) hL
 rw [comE_s1, comC_s1] at h
 refine Calls.mono h ?_
 rintro r w' ⟨⟨vo', vc, io, ic, rfl, hc⟩, hb⟩
 exact ⟨⟨vo', vc, io, ic, rfl⟩, hb⟩
theorem lValidate (vo io : Option Addr) (vc ic : Nat) (w : World) (hG : Ge w) (h : CodeAt ⟨2, sV, sC⟩ vo vc io ic w) :
  Calls Tryz.prog 16 #[.agg #[.int .i64 2, .slice vo 2 vc, .slice io 7 ic]] w fun r w' => r = .returned (.int .i64 0) ∧ Below w.heap.size w w' := by
 have h1 := mValidate ⟨2, sV, sC⟩ vo io vc ic w hG h fits_sC
 rw [show (runC (⟨2, sV, sC⟩ : Cd).t (⟨2, sV, sC⟩ : Cd).vs (⟨2, sV, sC⟩ : Cd).c) = (2, 0) from s_run] at h1
 exact h1
theorem lDepth (vo io : Option Addr) (vc ic : Nat) (w : World) (hG : Ge w) (h : CodeAt ⟨2, sV, sC⟩ vo vc io ic w) :
  Calls Tryz.prog 18 #[.agg #[.int .i64 2, .slice vo 2 vc, .slice io 7 ic]] w fun r w' => r = .returned (.int .i64 2) ∧ Below w.heap.size w w' := by
 have h1 := mDepth ⟨2, sV, sC⟩ vo io vc ic w hG h fits_sC
 rw [show (runC (⟨2, sV, sC⟩ : Cd).t (⟨2, sV, sC⟩ : Cd).vs (⟨2, sV, sC⟩ : Cd).c) = (2, 0) from s_run] at h1
 exact h1
theorem lSame (vo io : Option Addr) (vc ic : Nat) (w : World) (h : CodeAt ⟨2, sV, sC⟩ vo vc io ic w) :
  Calls Tryz.prog 22 #[.agg #[.int .i64 2, .slice vo 2 vc, .slice io 7 ic], .agg #[.int .i64 2, .slice vo 2 vc, .slice io 7 ic]] w fun r w' => r = .returned (.bool true) ∧ Below w.heap.size w w' := by
 have h1 := mSame ⟨2, sV, sC⟩ ⟨2, sV, sC⟩ vo io vo io vc ic vc ic w (by decide) (by decide) h h
 rw [show same3 (⟨2, sV, sC⟩ : Cd) ⟨2, sV, sC⟩ = true by rw [same3_eq]; exact decide_eq_true rfl] at h1
 exact h1
theorem lPrint (vo io : Option Addr) (vc ic : Nat) (w : World) (hG : Gk w) (h : CodeAt ⟨2, sV, sC⟩ vo vc io ic w) :
  Calls Tryz.prog 20 #[.agg #[.int .i64 2, .slice vo 2 vc, .slice io 7 ic]] w fun r w' => r = .returned (.string ⟨#[108, 111, 97, 100, 32, 97, 103, 101, 10, 112, 117, 115, 104, 32, 110, 117, 109, 98, 101, 114, 32, 53, 10, 108, 116, 10, 102, 97, 108, 115, 101, 32, 54, 10, 112, 117, 115, 104, 32, 97, 109, 111, 117, 110, 116, 32, 51, 10, 106, 117, 109, 112, 32, 55, 10, 108, 111, 97, 100, 32, 97, 109, 111, 117, 110, 116, 10]⟩) ∧ Below w.heap.size w w' := by
 have h1 := mPrint ⟨2, sV, sC⟩ vo io vc ic w hG h fits_sC
 rw [show prT (⟨2, sV, sC⟩ : Cd).t (⟨2, sV, sC⟩ : Cd).vs (⟨2, sV, sC⟩ : Cd).c = [108, 111, 97, 100, 32, 97, 103, 101, 10, 112, 117, 115, 104, 32, 110, 117, 109, 98, 101, 114, 32, 53, 10, 108, 116, 10, 102, 97, 108, 115, 101, 32, 54, 10, 112, 117, 115, 104, 32, 97, 109, 111, 117, 110, 116, 32, 51, 10, 106, 117, 109, 112, 32, 55, 10, 108, 111, 97, 100, 32, 97, 109, 111, 117, 110, 116, 10] from s_text] at h1
 exact h1
theorem lBad (io : Option Addr) (w : World) (hG : Ge w) (h : InsAt io [((1, 1, 1) : Ins)] w) (hn : io ≠ none) :
  Calls Tryz.prog 16 #[.agg #[.int .i64 2, .slice none 0 0, .slice io 1 1]] w fun r w' => r = .returned (.int .i64 9) ∧ Below w.heap.size w w' := by
 have h1 := mValidate ⟨2, [], [(1, 1, 1)]⟩ none io 0 1 w hG ⟨VarsAt.nil _ _, h, Nat.le_refl _, fun _ => ⟨rfl, rfl⟩, fun e => absurd e hn⟩ (by unfold Fits; decide)
 rw [show (runC (⟨2, [], [(1, 1, 1)]⟩ : Cd).t (⟨2, [], [(1, 1, 1)]⟩ : Cd).vs (⟨2, [], [(1, 1, 1)]⟩ : Cd).c) = (0, 9) from s_bad] at h1
 exact h1
theorem ins_new (w : World) (x : Ins) (t : TypeId) : InsAt (some ⟨w.heap.size, 0, none⟩) [x] (w.alloc (.cells #[.int .i64 x.1, .int .i64 x.2.1, .int .i64 x.2.2] t)) := by
 intro i hi
 have : i = 0 := by simp at hi; exact hi
 subst this
 exact ⟨w.heap.size, 0, rfl, by simp, by simp [go_sem], by simp [go_sem], by simp [go_sem]⟩
set_option maxRecDepth 100000 in
set_option maxHeartbeats 8000000 in
theorem mlive12 (w : World) (hG : Gk w) : Calls Tryz.prog 11 #[] w fun r w' => r = .returned (.bool true) ∧ Below w.heap.size w w' := by
 have HG := Lib.hid (fun W (hW : Below w.heap.size w W) => hG.keep hW)
 have SAM := Lib.hid lsample
 clear hG
 go_enter Tryz.func11, Tryz.ntmps11
 go_wp2_with fail
 refine (SAM.out _).mono ?_
 rintro r w1 ⟨so, va, rfl, hL, hv, hb1⟩
 have HL := Lib.hid hL
 have HV := Lib.hid hv
 have HB1 := Lib.hid hb1
 clear hL hv hb1
 have hb2 : Below w1.heap.size w1 (w1.alloc (.cells #[.int .i64 19, .int .i64 0, .string ⟨#[]⟩, .slice (some so) 3 3] 24)) := bal (bref w1) _
 obtain ⟨X, hX⟩ : ∃ X, w1.heap.size = X := ⟨_, rfl⟩
 have e0 : (w1.alloc (.cells #[.int .i64 19, .int .i64 0, .string ⟨#[]⟩, .slice (some so) 3 3] 24)).cell? ⟨w1.heap.size, 0, none⟩ = some (.int .i64 19) := by simp [go_sem]
 have e1 : (w1.alloc (.cells #[.int .i64 19, .int .i64 0, .string ⟨#[]⟩, .slice (some so) 3 3] 24)).cell? ⟨w1.heap.size, 1, none⟩ = some (.int .i64 0) := by simp [go_sem]
 have e2 : (w1.alloc (.cells #[.int .i64 19, .int .i64 0, .string ⟨#[]⟩, .slice (some so) 3 3] 24)).cell? ⟨w1.heap.size, 2, none⟩ = some (.string ⟨#[]⟩) := by simp [go_sem]
 have e3 : (w1.alloc (.cells #[.int .i64 19, .int .i64 0, .string ⟨#[]⟩, .slice (some so) 3 3] 24)).cell? ⟨w1.heap.size, 3, none⟩ = some (.slice (some so) 3 3) := by simp [go_sem]
 clear hX
 have HB2 := Lib.hid (btr HB1.out hb2)
 have HL2 := Lib.hid (HL.out.keep hb2)
 have HV2 := Lib.hid (HV.out.keep hb2)
 clear hb2
 go_wp2_with fail
 refine (lCompile so va _ (HG.out _ HB2.out).1 HL2.out HV2.out).mono ?_
 rintro r w3 ⟨vo, vc, io, ic, rfl, hc3, hb3⟩
 replace e0 := keepc hb3 e0
 replace e1 := keepc hb3 e1
 replace e2 := keepc hb3 e2
 replace e3 := keepc hb3 e3
 have hb4 : Below w3.heap.size w3 (w3.alloc (.cells #[.int .i64 2, .slice vo 2 vc, .slice io 7 ic] 30)) := bal (bref w3) _
 replace e0 := keepc hb4 e0
 replace e1 := keepc hb4 e1
 replace e2 := keepc hb4 e2
 replace e3 := keepc hb4 e3
 have y0 : (w3.alloc (.cells #[.int .i64 2, .slice vo 2 vc, .slice io 7 ic] 30)).cell? ⟨w3.heap.size, 0, none⟩ = some (.int .i64 2) := by simp [go_sem]
 have y1 : (w3.alloc (.cells #[.int .i64 2, .slice vo 2 vc, .slice io 7 ic] 30)).cell? ⟨w3.heap.size, 1, none⟩ = some (.slice vo 2 vc) := by simp [go_sem]
 have y2 : (w3.alloc (.cells #[.int .i64 2, .slice vo 2 vc, .slice io 7 ic] 30)).cell? ⟨w3.heap.size, 2, none⟩ = some (.slice io 7 ic) := by simp [go_sem]
 have HB4 := Lib.hid (btr (btr HB2.out hb3) hb4)
 have HL4 := Lib.hid ((HL2.out.keep hb3).keep hb4)
 have HV4 := Lib.hid ((HV2.out.keep hb3).keep hb4)
 have HC4 := Lib.hid (hc3.keep hb4)
 clear hb3 hb4 hc3
 go_wp2_with fail
 refine (lValidate vo io vc ic _ (HG.out _ HB4.out).1 HC4.out).mono ?_
 rintro r w5 ⟨rfl, hb⟩
 replace e0 := keepc hb e0
 replace e1 := keepc hb e1
 replace e2 := keepc hb e2
 replace e3 := keepc hb e3
 replace y0 := keepc hb y0
 replace y1 := keepc hb y1
 replace y2 := keepc hb y2
 have HBa := Lib.hid (btr HB4.out hb)
 have HCa := Lib.hid (HC4.out.keep hb)
 have HLa := Lib.hid (HL4.out.keep hb)
 have HVa := Lib.hid (HV4.out.keep hb)
 clear hb
 go_wp2_with fail
 refine (lDepth vo io vc ic _ (HG.out _ HBa.out).1 HCa.out).mono ?_
 rintro r w6 ⟨rfl, hb⟩
 replace e0 := keepc hb e0
 replace e1 := keepc hb e1
 replace e2 := keepc hb e2
 replace e3 := keepc hb e3
 replace y0 := keepc hb y0
 replace y1 := keepc hb y1
 replace y2 := keepc hb y2
 have HBb := Lib.hid (btr HBa.out hb)
 have HCb := Lib.hid (HCa.out.keep hb)
 have HLb := Lib.hid (HLa.out.keep hb)
 have HVb := Lib.hid (HVa.out.keep hb)
 clear hb
 go_wp2_with fail
 refine (lSame vo io vc ic _ HCb.out).mono ?_
 rintro r u5 ⟨rfl, hb⟩
 replace e0 := keepc hb e0
 replace e1 := keepc hb e1
 replace e2 := keepc hb e2
 replace e3 := keepc hb e3
 replace y0 := keepc hb y0
 replace y1 := keepc hb y1
 replace y2 := keepc hb y2
 have HB5 := Lib.hid (btr HBb.out hb)
 have HC5 := Lib.hid (HCb.out.keep hb)
 have HL5 := Lib.hid (HLb.out.keep hb)
 have HV5 := Lib.hid (HVb.out.keep hb)
 clear hb
 have C2 := Lib.hid (fun W (hW : Below w.heap.size w W) (hW5 : Below u5.heap.size u5 W) => lCompile1 so va W (HG.out _ hW).1 (HL5.out.keep hW5) (HV5.out.keep hW5))
 go_wp2_with fail
 refine wp_region_held_drew (S := (fun W => Below u5.heap.size u5 W)) (by kernel_rfl) (bdr (bref _)) (fun hH0 => ?_)
 refine wpAnyH_take (i := 0) (oi := _) (v := ?_) rfl (by kernel_rfl) (by kernel_rfl) (by kernel_rfl) (fun _ _ _ h => h) (Or.inl ⟨?_, ?_⟩) hH0 ?_
 rotate_left
 ·kernel_rfl
 ·(intro W' hSw; have f0 := keepc hSw e0; have f1 := keepc hSw e1; have f2 := keepc hSw e2; have f3 := keepc hSw e3; go_simp; (try with_reducible rfl))
 (try simp only [List.getElem_toArray, List.getElem_cons_zero, Act.put, List.setIfInBounds_toArray, List.set_cons_succ, List.set_cons_zero])
 refine wpAnyH_take (i := 1) (oi := _) (v := ?_) rfl (by kernel_rfl) (by kernel_rfl) (by kernel_rfl) (fun _ _ _ h => h) (Or.inl ⟨?_, ?_⟩) hH0 ?_
 rotate_left
 ·kernel_rfl
 ·(intro W' _; go_simp; (try with_reducible rfl))
 (try simp only [List.getElem_toArray, List.getElem_cons_succ, List.getElem_cons_zero, Act.put, List.setIfInBounds_toArray, List.set_cons_succ, List.set_cons_zero])
 refine wpAnyH_take (i := 2) (oi := _) (v := ?_) rfl (by kernel_rfl) (by kernel_rfl) (by kernel_rfl) (fun _ _ _ h => h) (Or.inl ⟨?_, ?_⟩) hH0 ?_
 rotate_left
 ·kernel_rfl
 ·(intro W' _; go_simp; (try with_reducible rfl))
 (try simp only [List.getElem_toArray, List.getElem_cons_succ, List.getElem_cons_zero, Act.put, List.setIfInBounds_toArray, List.set_cons_succ, List.set_cons_zero])
 refine wpAnyH_ready (rs := [3, 7]) (by kernel_rfl) (by simp) ?_
 refine AllReadyH.cons (o := _) rfl (fun K hK => ?_) (AllReadyH.cons (o := _) rfl (fun K hK => ?_) AllReadyH.nil)
 ·go_simp
  refine (C2.out _ (btr HB5.out hH0) hH0).mono ?_
  rintro r w6 ⟨⟨v6, c6, i6, j6, rfl⟩, hb6⟩
  refine hK.out _ _ (btr hH0 hb6) (fun hH1 => ?_)
  clear hK K
  (try simp only [List.getElem_toArray, List.getElem_cons_succ, List.getElem_cons_zero, Act.put, List.setIfInBounds_toArray, List.set_cons_succ, List.set_cons_zero])
  refine wpAnyH_take (i := 4) (oi := _) (v := ?_) rfl (by kernel_rfl) (by kernel_rfl) (by kernel_rfl) (fun _ _ _ h => h) (Or.inl ⟨?_, ?_⟩) hH1 ?_
  rotate_left
  ·kernel_rfl
  ·(intro W' _; go_simp; (try with_reducible rfl))
  (try simp only [List.getElem_toArray, List.getElem_cons_succ, List.getElem_cons_zero, Act.put, List.setIfInBounds_toArray, List.set_cons_succ, List.set_cons_zero])
  refine wpAnyH_take (i := 5) (oi := _) (v := ?_) rfl (by kernel_rfl) (by kernel_rfl) (by kernel_rfl) (fun _ _ _ h => h) (Or.inl ⟨?_, ?_⟩) hH1 ?_
  rotate_left
  ·kernel_rfl
  ·(intro W' _; go_simp; (try with_reducible rfl))
  (try simp only [List.getElem_toArray, List.getElem_cons_succ, List.getElem_cons_zero, Act.put, List.setIfInBounds_toArray, List.set_cons_succ, List.set_cons_zero])
  refine wpAnyH_take (i := 6) (oi := _) (v := ?_) rfl (by kernel_rfl) (by kernel_rfl) (by kernel_rfl) (fun _ _ _ h => h) (Or.inl ⟨?_, ?_⟩) hH1 ?_
  rotate_left
  ·kernel_rfl
  ·(intro W' _; go_simp; (try with_reducible rfl))
  (try simp only [List.getElem_toArray, List.getElem_cons_succ, List.getElem_cons_zero, Act.put, List.setIfInBounds_toArray, List.set_cons_succ, List.set_cons_zero])
  refine wpAnyH_ready (rs := [7]) (by kernel_rfl) (by simp) ?_
  refine AllReadyH.cons (o := _) rfl (fun K hK => ?_) AllReadyH.nil
  go_simp
  refine hK.out _ _ (bal hH1 _) (fun hH2 => ?_)
  clear hK K
  (try simp only [List.getElem_toArray, List.getElem_cons_succ, List.getElem_cons_zero, Act.put, List.setIfInBounds_toArray, List.set_cons_succ, List.set_cons_zero])
  refine wpAnyH_ready (rs := [8]) (by kernel_rfl) (by simp) ?_
  refine AllReadyH.cons (o := _) rfl (fun K hK => ?_) AllReadyH.nil
  go_simp
  refine hK.out _ _ (bal hH1 _) (fun hH3 => ?_)
  clear hK K
  (try simp only [List.getElem_toArray, List.getElem_cons_succ, List.getElem_cons_zero, Act.put, List.setIfInBounds_toArray, List.set_cons_succ, List.set_cons_zero])
  refine wpAnyH_take (i := 9) (oi := _) (v := ?_) rfl (by kernel_rfl) (by kernel_rfl) (by kernel_rfl) (fun _ _ _ h => h) (Or.inl ⟨?_, ?_⟩) hH3 ?_
  rotate_left
  ·kernel_rfl
  ·(intro W' _; go_simp; (try with_reducible rfl))
  (try simp only [List.getElem_toArray, List.getElem_cons_succ, List.getElem_cons_zero, Act.put, List.setIfInBounds_toArray, List.set_cons_succ, List.set_cons_zero])
  refine wpAnyH_done (by kernel_rfl) ?_ _
  have HB9 := Lib.hid (btr HB5.out hH3)
  have HC9 := Lib.hid (HC5.out.keep hH3)
  replace y0 := keepc hH3 y0
  replace y1 := keepc hH3 y1
  replace y2 := keepc hH3 y2
  clear hH0 hH1 hH2 hH3 e0 e1 e2 e3
  go_wp2_with fail
  refine (lPrint vo io vc ic _ (HG.out _ HB9.out) HC9.out).mono ?_
  rintro r w10 ⟨rfl, hb⟩
  have HBx := Lib.hid (btr HB9.out hb)
  clear hb
  go_wp2_with fail
  refine (lBad (some ⟨w10.heap.size, 0, none⟩) _ (HG.out _ (bal HBx.out _)).1 (ins_new w10 (1, 1, 1) _) (by simp)).mono ?_
  rintro r w11 ⟨rfl, hb⟩
  have HBy := Lib.hid (btr (bal HBx.out _) hb)
  clear hb
  go_wp2_with fail
  go_ret
  exact ⟨rfl, HBy.out⟩
 ·go_simp
  refine hK.out _ _ (bal hH0 _) (fun hH1 => ?_)
  clear hK K
  (try simp only [List.getElem_toArray, List.getElem_cons_succ, List.getElem_cons_zero, Act.put, List.setIfInBounds_toArray, List.set_cons_succ, List.set_cons_zero])
  refine wpAnyH_ready (rs := [3]) (by kernel_rfl) (by simp) ?_
  refine AllReadyH.cons (o := _) rfl (fun K hK => ?_) AllReadyH.nil
  go_simp
  refine (C2.out _ (btr HB5.out hH1) hH1).mono ?_
  rintro r w6 ⟨⟨v6, c6, i6, j6, rfl⟩, hb6⟩
  refine hK.out _ _ (btr hH1 hb6) (fun hH2 => ?_)
  clear hK K
  (try simp only [List.getElem_toArray, List.getElem_cons_succ, List.getElem_cons_zero, Act.put, List.setIfInBounds_toArray, List.set_cons_succ, List.set_cons_zero])
  refine wpAnyH_take (i := 4) (oi := _) (v := ?_) rfl (by kernel_rfl) (by kernel_rfl) (by kernel_rfl) (fun _ _ _ h => h) (Or.inl ⟨?_, ?_⟩) hH2 ?_
  rotate_left
  ·kernel_rfl
  ·(intro W' _; go_simp; (try with_reducible rfl))
  (try simp only [List.getElem_toArray, List.getElem_cons_succ, List.getElem_cons_zero, Act.put, List.setIfInBounds_toArray, List.set_cons_succ, List.set_cons_zero])
  refine wpAnyH_take (i := 5) (oi := _) (v := ?_) rfl (by kernel_rfl) (by kernel_rfl) (by kernel_rfl) (fun _ _ _ h => h) (Or.inl ⟨?_, ?_⟩) hH2 ?_
  rotate_left
  ·kernel_rfl
  ·(intro W' _; go_simp; (try with_reducible rfl))
  (try simp only [List.getElem_toArray, List.getElem_cons_succ, List.getElem_cons_zero, Act.put, List.setIfInBounds_toArray, List.set_cons_succ, List.set_cons_zero])
  refine wpAnyH_take (i := 6) (oi := _) (v := ?_) rfl (by kernel_rfl) (by kernel_rfl) (by kernel_rfl) (fun _ _ _ h => h) (Or.inl ⟨?_, ?_⟩) hH2 ?_
  rotate_left
  ·kernel_rfl
  ·(intro W' _; go_simp; (try with_reducible rfl))
  (try simp only [List.getElem_toArray, List.getElem_cons_succ, List.getElem_cons_zero, Act.put, List.setIfInBounds_toArray, List.set_cons_succ, List.set_cons_zero])
  refine wpAnyH_ready (rs := [8]) (by kernel_rfl) (by simp) ?_
  refine AllReadyH.cons (o := _) rfl (fun K hK => ?_) AllReadyH.nil
  have z0 := keepc hb6 (show (u5.drew.alloc (.cells #[.int .i64 0, .slice none 0 0, .slice none 0 0] 30)).cell? ⟨u5.heap.size, 0, none⟩ = some (.int .i64 0) by simp [go_sem])
  have zf0 := keepf hb6 (show (u5.drew.alloc (.cells #[.int .i64 0, .slice none 0 0, .slice none 0 0] 30)).cell? ⟨u5.heap.size, 0, none⟩ = some (.int .i64 0) by simp [go_sem]) (show (u5.drew.alloc (.cells #[.int .i64 0, .slice none 0 0, .slice none 0 0] 30)).frozen? ⟨u5.heap.size, 0, none⟩ = false by simp [go_sem])
  have z1 := keepc hb6 (show (u5.drew.alloc (.cells #[.int .i64 0, .slice none 0 0, .slice none 0 0] 30)).cell? ⟨u5.heap.size, 1, none⟩ = some (.slice none 0 0) by simp [go_sem])
  have zf1 := keepf hb6 (show (u5.drew.alloc (.cells #[.int .i64 0, .slice none 0 0, .slice none 0 0] 30)).cell? ⟨u5.heap.size, 1, none⟩ = some (.slice none 0 0) by simp [go_sem]) (show (u5.drew.alloc (.cells #[.int .i64 0, .slice none 0 0, .slice none 0 0] 30)).frozen? ⟨u5.heap.size, 1, none⟩ = false by simp [go_sem])
  have z2 := keepc hb6 (show (u5.drew.alloc (.cells #[.int .i64 0, .slice none 0 0, .slice none 0 0] 30)).cell? ⟨u5.heap.size, 2, none⟩ = some (.slice none 0 0) by simp [go_sem])
  have zf2 := keepf hb6 (show (u5.drew.alloc (.cells #[.int .i64 0, .slice none 0 0, .slice none 0 0] 30)).cell? ⟨u5.heap.size, 2, none⟩ = some (.slice none 0 0) by simp [go_sem]) (show (u5.drew.alloc (.cells #[.int .i64 0, .slice none 0 0, .slice none 0 0] 30)).frozen? ⟨u5.heap.size, 2, none⟩ = false by simp [go_sem])
  go_simp
  refine hK.out _ _ (bset (bset (bset hH2 (Nat.le_refl _) _) (Nat.le_refl _) _) (Nat.le_refl _) _) (fun hH3 => ?_)
  clear hK K
  (try simp only [List.getElem_toArray, List.getElem_cons_succ, List.getElem_cons_zero, Act.put, List.setIfInBounds_toArray, List.set_cons_succ, List.set_cons_zero])
  refine wpAnyH_take (i := 9) (oi := _) (v := ?_) rfl (by kernel_rfl) (by kernel_rfl) (by kernel_rfl) (fun _ _ _ h => h) (Or.inl ⟨?_, ?_⟩) hH3 ?_
  rotate_left
  ·kernel_rfl
  ·(intro W' _; go_simp; (try with_reducible rfl))
  (try simp only [List.getElem_toArray, List.getElem_cons_succ, List.getElem_cons_zero, Act.put, List.setIfInBounds_toArray, List.set_cons_succ, List.set_cons_zero])
  refine wpAnyH_done (by kernel_rfl) ?_ _
  have HB9 := Lib.hid (btr HB5.out hH3)
  have HC9 := Lib.hid (HC5.out.keep hH3)
  replace y0 := keepc hH3 y0
  replace y1 := keepc hH3 y1
  replace y2 := keepc hH3 y2
  clear hH0 hH1 hH2 hH3 e0 e1 e2 e3
  go_wp2_with fail
  refine (lPrint vo io vc ic _ (HG.out _ HB9.out) HC9.out).mono ?_
  rintro r w10 ⟨rfl, hb⟩
  have HBx := Lib.hid (btr HB9.out hb)
  clear hb
  go_wp2_with fail
  refine (lBad (some ⟨w10.heap.size, 0, none⟩) _ (HG.out _ (bal HBx.out _)).1 (ins_new w10 (1, 1, 1) _) (by simp)).mono ?_
  rintro r w11 ⟨rfl, hb⟩
  have HBy := Lib.hid (btr (bal HBx.out _) hb)
  clear hb
  go_wp2_with fail
  go_ret
  exact ⟨rfl, HBy.out⟩
end Go.Proofs.YthanoilbcdhbkaaGreatDoor
