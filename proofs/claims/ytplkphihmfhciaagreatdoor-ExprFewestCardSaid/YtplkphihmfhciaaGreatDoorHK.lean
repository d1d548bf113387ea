/-
  The walk of ExprRoundTrips.
-/
import Derived.Test.YtplkphihmfhciaaGreatDoorHM
import Derived.Test.YtplkphihmfhciaaGreatDoorMI
import Derived.Test.YtplkphihmfhciaaGreatDoorHJ
import Derived.Laws.OwnMore
namespace Go.Proofs.YtplkphihmfhciaaGreatDoor
open Go Go.RowKit Go.Lib Go.Shelf WM TM EM

def semi : Tok := (4, 0, [59])
theorem infL_semi (l : List Tok) : infL (semi :: l) = 0 := by
 show inf 4 [59] = 0
 decide
theorem lit_semi (u : World) : OT u.heap.size (.slice (some ⟨u.heap.size, 0, none⟩) 1 1) [semi] (u.alloc (.cells #[.int .i64 4, .int .i64 0, .string ⟨#[59]⟩] 44)) :=
 World.ownsRow_lit u #[.int .i64 4, .int .i64 0, .string ⟨#[59]⟩] 1 (Nat.le_refl _) (by unfold maxLen; omega) rfl
theorem lit_empty (u : World) : OT u.heap.size (.slice (some ⟨u.heap.size, 0, none⟩) 0 0) [] (u.alloc (.cells #[] 44)) :=
 World.ownsRow_lit u #[] 0 (Nat.le_refl _) (by unfold maxLen; omega) rfl
theorem pO_ok {l : List Tok} {k : Int} {e : Ex} {q : Nat} {m : List Tok} (h : vE e = 0) : pO l k (.ok e q m) = (e, ((l.length - m.length : Nat) : Int), 0) := by
 simp only [pO, if_pos h]
theorem SB.long {l : List Tok} (h : SB l) : ∀ t ∈ l, t.2.2.length ≤ 1000000 := fun t ht => by have := h.2.2 t ht; omega
set_option maxRecDepth 100000 in
set_option maxHeartbeats 16000000 in
theorem exprRounds (e : Ex) (so : Option Addr) (cap : Nat) (a1 : Option Addr) (zs : List Tok) (c1 : Nat) (w : World) (hG : Gf w) (hS : Es w) (hL : Lies (e, so, cap) w) (hT : TokensAt a1 zs w) (hnil : a1 = none → zs.length = 0 ∧ c1 = 0) :
  Calls Tryz.prog 6 #[.agg #[.int .i64 e.op, .int .i64 e.n, .string (str e.s), .slice so e.args.length cap], .slice a1 zs.length c1] w fun r w' => r = .returned (.bool true) ∧ Below w.heap.size w w' := by
 have LV := Lib.hid (fun W (hW : Below w.heap.size w W) => mlive W (hG.keep hW) (hS.keep hW))
 have GR := Lib.hid (fun W (hW : Below w.heap.size w W) => rgreat e 300 so cap W (by decide) (hL.1.keep hW))
 have SH := Lib.hid (fun W (hW : Below w.heap.size w W) => mshort10 a1 zs c1 W (hT.keep hW))
 have MV := Lib.hid (fun W (hW : Below w.heap.size w W) => mvalidate e so cap W (hG.1.keep hW) (hL.keep hW))
 have hb2 : Below w.heap.size w (w.alloc (.cells #[.int .i64 e.op, .int .i64 e.n, .string (str e.s), .slice so e.args.length cap] 27)) := bal (bref _) _
 cases hg : grtB e 300 with
 | true =>
  rw [hg] at GR
  clear hg hG hS hL hT
  go_enter Tryz.func6, Tryz.ntmps6
  go_wp2_with fail
  refine (GR.out _ hb2).mono ?_
  rintro r w1 ⟨rfl, hb1⟩
  have HB1 := Lib.hid (btr hb2 hb1)
  clear hb1
  go_wp2_with fail
  refine (LV.out _ HB1.out).mono ?_
  rintro r w9 ⟨rfl, hb9⟩
  have HB9 := Lib.hid (btr HB1.out hb9)
  clear hb9
  go_wp2_with fail
  go_ret
  exact ⟨rfl, HB9.out⟩
 | false =>
  have hsz : siz e ≤ 300 := grt_siz hg
  rw [hg] at GR
  clear hg
  cases hs : sh10 zs with
  | false =>
   rw [hs] at SH
   clear hs hG hS hL hT
   go_enter Tryz.func6, Tryz.ntmps6
   go_wp2_with fail
   refine (GR.out _ hb2).mono ?_
   rintro r w1 ⟨rfl, hb1⟩
   have HB1 := Lib.hid (btr hb2 hb1)
   clear hb1
   go_wp2_with fail
   refine (SH.out _ HB1.out).mono ?_
   rintro r w2 ⟨rfl, hw2⟩
   subst hw2
   go_wp2_with fail
   refine (LV.out _ HB1.out).mono ?_
   rintro r w9 ⟨rfl, hb9⟩
   have HB9 := Lib.hid (btr HB1.out hb9)
   clear hb9
   go_wp2_with fail
   go_ret
   exact ⟨rfl, HB9.out⟩
  | true =>
   rw [hs] at SH
   obtain ⟨s1, s2⟩ := sh10_parts hs
   clear hs
   by_cases hv : vE e = 0
   rotate_left
   ·obtain ⟨V, hV⟩ : ∃ V, vE e = V := ⟨_, rfl⟩
    rw [hV] at MV hv
    have gv : (V == 0) = false := by rw [beq_eq_false_iff_ne]; exact hv
    clear hv hV hG hS hL hT s1 s2
    go_enter Tryz.func6, Tryz.ntmps6
    go_wp2_with fail
    refine (GR.out _ hb2).mono ?_
    rintro r w1 ⟨rfl, hb1⟩
    have HB1 := Lib.hid (btr hb2 hb1)
    have a0 := keepc hb1 (show (w.alloc (.cells #[.int .i64 e.op, .int .i64 e.n, .string (str e.s), .slice so e.args.length cap] 27)).cell? ⟨w.heap.size, 0, none⟩ = some (.int .i64 e.op) by simp [go_sem])
    have a1 := keepc hb1 (show (w.alloc (.cells #[.int .i64 e.op, .int .i64 e.n, .string (str e.s), .slice so e.args.length cap] 27)).cell? ⟨w.heap.size, 1, none⟩ = some (.int .i64 e.n) by simp [go_sem])
    have a2 := keepc hb1 (show (w.alloc (.cells #[.int .i64 e.op, .int .i64 e.n, .string (str e.s), .slice so e.args.length cap] 27)).cell? ⟨w.heap.size, 2, none⟩ = some (.string (str e.s)) by simp [go_sem])
    have a3 := keepc hb1 (show (w.alloc (.cells #[.int .i64 e.op, .int .i64 e.n, .string (str e.s), .slice so e.args.length cap] 27)).cell? ⟨w.heap.size, 3, none⟩ = some (.slice so e.args.length cap) by simp [go_sem])
    clear hb1
    go_wp2_with fail
    refine (SH.out _ HB1.out).mono ?_
    rintro r w2 ⟨rfl, hw2⟩
    subst hw2
    go_wp2_with fail
    refine (MV.out _ HB1.out).mono ?_
    rintro r w2 ⟨rfl, hb⟩
    have HB2 := Lib.hid (btr HB1.out hb)
    clear hb
    go_wp2_with fail
    refine (LV.out _ HB2.out).mono ?_
    rintro r w9 ⟨rfl, hb9⟩
    have HB9 := Lib.hid (btr HB2.out hb9)
    clear hb9
    go_wp2_with fail
    go_ret
    exact ⟨rfl, HB9.out⟩
   ·have hok := vE_ok hv
    have hg : gT e = body e := by unfold gT; rw [if_pos hv]
    have HB := Lib.hid (body_SB e hok.2.2.1 hok.2.2.2)
    have HBL := Lib.hid (body_len e)
    have HPO := Lib.hid (body_pos hok.2.2.1)
    have HRA := Lib.hid (fun t ht => reads_again e hok.2.2.1 t ht)
    have HVE := Lib.hid hv
    have MT := Lib.hid (fun W (hW : Below w.heap.size w W) => mtokens e so cap W (hG.keep hW) (hL.keep hW))
    rw [hv] at MV MT
    rw [hg] at MT
    have MP := Lib.hid (fun ao c l o W (hW : Below w.heap.size w W) (hT : TokensAt ao l W) (hl : l.length ≤ 1000000) (htx : ∀ t ∈ l, t.2.2.length ≤ 1000000) (ho : E 0 (l.drop 0) o) => mparse ao c l 0 (Nat.zero_le _) W (hG.keep hW) (hS.keep hW) hT hl htx o ho)
    have HLE := Lib.hid hL
    have HTZ := Lib.hid hT
    have HZ2 := Lib.hid s2
    have HNI := Lib.hid hnil
    have hzl : zs.length ≤ 300 := s1
    obtain ⟨B, hBdef⟩ : ∃ B, body e = B := ⟨_, rfl⟩
    rw [hBdef] at MT HB HBL HPO HRA
    have hBl : B.length ≤ 3000 := by have := HBL.out; omega
    have HSI := Lib.hid hsz
    clear hv hok hg hG hS hL hT s1 s2 hBdef hnil hsz
    go_enter Tryz.func6, Tryz.ntmps6
    go_wp2_with fail
    refine (GR.out _ hb2).mono ?_
    rintro r w1 ⟨rfl, hb1⟩
    have HB1 := Lib.hid (btr hb2 hb1)
    have k0 := keepc hb1 (show (w.alloc (.cells #[.int .i64 e.op, .int .i64 e.n, .string (str e.s), .slice so e.args.length cap] 27)).cell? ⟨w.heap.size, 0, none⟩ = some (.int .i64 e.op) by simp [go_sem])
    have k1 := keepc hb1 (show (w.alloc (.cells #[.int .i64 e.op, .int .i64 e.n, .string (str e.s), .slice so e.args.length cap] 27)).cell? ⟨w.heap.size, 1, none⟩ = some (.int .i64 e.n) by simp [go_sem])
    have k2 := keepc hb1 (show (w.alloc (.cells #[.int .i64 e.op, .int .i64 e.n, .string (str e.s), .slice so e.args.length cap] 27)).cell? ⟨w.heap.size, 2, none⟩ = some (.string (str e.s)) by simp [go_sem])
    have k3 := keepc hb1 (show (w.alloc (.cells #[.int .i64 e.op, .int .i64 e.n, .string (str e.s), .slice so e.args.length cap] 27)).cell? ⟨w.heap.size, 3, none⟩ = some (.slice so e.args.length cap) by simp [go_sem])
    clear hb1
    go_wp2_with fail
    refine (SH.out _ HB1.out).mono ?_
    rintro r w2 ⟨rfl, hw2⟩
    subst hw2
    go_wp2_with fail
    refine (MV.out _ HB1.out).mono ?_
    rintro r w2 ⟨rfl, hb⟩
    have HB2 := Lib.hid (btr HB1.out hb)
    replace k0 := keepc hb k0
    replace k1 := keepc hb k1
    replace k2 := keepc hb k2
    replace k3 := keepc hb k3
    clear hb
    go_wp2_with fail
    refine (MT.out _ HB2.out).mono ?_
    rintro r w3 ⟨ao, c, rfl, hc, hTB, hb⟩
    have HTB := Lib.hid hTB
    have HB3 := Lib.hid (btr HB2.out hb)
    have HAO := Lib.hid (tok_some hTB HPO.out)
    replace k0 := keepc hb k0
    replace k1 := keepc hb k1
    replace k2 := keepc hb k2
    replace k3 := keepc hb k3
    clear hb hTB hc
    have MP1 := fun W (hW : Below w.heap.size w W) (hT : TokensAt ao B W) => MP.out ao c B (.ok e (rk e.op) []) W hW hT (by omega) HB.out.long (by have := HRA.out [] rfl; rw [List.append_nil] at this; exact this)
    simp only [pO_ok HVE.out, vx, List.length_nil, Nat.sub_zero, show ((0 : Nat) : Int) = 0 from rfl] at MP1
    have MP1' := Lib.hid MP1
    clear MP1
    go_wp2_with fail
    refine (MP1'.out _ HB3.out HTB.out).mono ?_
    rintro r w4 ⟨sx, cx, rfl, hLx, hb⟩
    have HLX := Lib.hid hLx
    have HB4 := Lib.hid (btr HB3.out hb)
    have HV4 := Lib.hid (bx_vx w4 e sx cx)
    replace k0 := keepc hb k0
    replace k1 := keepc hb k1
    replace k2 := keepc hb k2
    replace k3 := keepc hb k3
    have HTB4 := Lib.hid (HTB.out.keep hb)
    clear hb hLx
    obtain ⟨v0, v1, v2, v3, vf⟩ := HV4.out
    have l4 : w.heap.size < w4.heap.size := World.block_lt_of_cell? _ _ k0
    have RS := rsame e e sx so cx cap (w4.alloc (.cells #[.int .i64 e.op, .int .i64 e.n, .string (str e.s), .slice sx e.args.length cx] 27)) (by have := HSI.out; omega) (HLX.out.1.keep (bal (bref _) _)) (HLE.out.1.keep (bal HB4.out _))
    rw [same_yes rfl] at RS
    have RS := Lib.hid RS
    go_wp2_with fail
    refine RS.out.mono ?_
    rintro r u ⟨rfl, hb⟩
    have HU := Lib.hid (btr (bal HB4.out _) hb)
    have HUB : Hid (Below w4.heap.size w4 u) := Lib.hid ((bal (bref w4) _).trans (hb.mono (by simp)))
    replace k0 := keepc HUB.out k0
    replace k1 := keepc HUB.out k1
    replace k2 := keepc HUB.out k2
    replace k3 := keepc HUB.out k3
    have HTU := Lib.hid (HTB4.out.keep HUB.out)
    have HTZU := Lib.hid (HTZ.out.keep HU.out)
    have HLEU := Lib.hid (HLE.out.keep HU.out)
    clear hb v0 v1 v2 v3 vf
    go_wp2_with (first
     | (at_builtin; refine wpList_app_toks rfl (.tmp 56) (.tmp 57) rfl u.heap.size (.slice (some ⟨u.heap.size, 0, none⟩) 1 1) [semi] rfl (lit_semi u) a1 zs c1 rfl (HTZU.out.keep (bal (bref _) _)) HNI.out (by simp only [List.length_cons, List.length_nil]; omega) (bal (bref _) _).size ?_; intro v10 x1 ox bx; have HO1 := Lib.hid ox; have HX1 := Lib.hid ((bal (bref u) _).trans bx); obtain ⟨ta, tc, rfl, htc, hTT, htn⟩ := HO1.out.shape; have HTT := Lib.hid hTT; have HTN := Lib.hid htn; clear ox bx hTT htn)
     | (at_builtin; refine wpList_app_toks rfl (.tmp 60) (.tmp 61) rfl x1.heap.size (.slice (some ⟨x1.heap.size, 0, none⟩) 0 0) [] rfl (lit_empty x1) ao B c rfl (HTU.out.keep (bal HX1.out _)) (fun h => absurd h HAO.out) (by simp only [List.length_nil]; omega) (bal (bref _) _).size ?_; intro v11 x2 ox bx; have HO2 := Lib.hid ox; have HX2 := Lib.hid ((bal (bref x1) _).trans bx); clear ox bx)
     | (at_builtin; refine wpList_app_toks rfl (.tmp 62) (.tmp 63) rfl x1.heap.size v11 ([] ++ B) rfl HO2.out ta ([semi] ++ zs) tc rfl (HTT.out.keep HX2.out) HTN.out (by simp only [List.length_append, List.length_cons, List.length_nil]; omega) HX2.out.size ?_; intro v12 x3 ox bx; have HO3 := Lib.hid ox; have HX3 := Lib.hid (HX2.out.trans bx); obtain ⟨fa, fc, hv12, hfc, hFT, hfn⟩ := HO3.out.shape; obtain ⟨nl, hnl⟩ : ∃ nl, (([] ++ B) ++ ([semi] ++ zs)).length = nl := ⟨_, rfl⟩; have HNL := Lib.hid hnl; rw [hnl] at hv12; subst hv12; have HFT := Lib.hid hFT; clear ox bx hFT hfn hnl hfc))
    have HX3u := Lib.hid (HX1.out.trans (HX3.out.mono HX1.out.size))
    have HX3w := Lib.hid (HU.out.trans (HX3u.out.mono HU.out.size))
    replace k0 := keepc HX3u.out k0
    replace k1 := keepc HX3u.out k1
    replace k2 := keepc HX3u.out k2
    replace k3 := keepc HX3u.out k3
    have htl : (([] ++ B) ++ ([semi] ++ zs)).length - ([semi] ++ zs).length = B.length := by simp
    have MP2 := fun W (hW : Below w.heap.size w W) (hT : TokensAt fa (([] ++ B) ++ ([semi] ++ zs)) W) => MP.out fa fc (([] ++ B) ++ ([semi] ++ zs)) (.ok e (rk e.op) ([semi] ++ zs)) W hW hT (by simp only [List.length_append, List.length_cons, List.length_nil]; omega) (by
     intro t ht
     rw [List.nil_append] at ht
     rcases List.mem_append.1 ht with h | h
     ·exact HB.out.long t h
     ·rcases List.mem_append.1 h with h | h
      ·rw [List.mem_singleton] at h; subst h; decide
      ·have := HZ2.out t h; omega) (by rw [List.nil_append]; exact HRA.out ([semi] ++ zs) (infL_semi zs))
    simp only [pO_ok HVE.out, vx, htl, show ((0 : Nat) : Int) = 0 from rfl] at MP2
    rw [HNL.out] at MP2
    have MP2' := Lib.hid MP2
    clear MP2 htl
    go_wp2_with fail
    refine (MP2'.out _ HX3w.out HFT.out).mono ?_
    rintro r y1 ⟨sy, cy, rfl, hLy, hb⟩
    have HLY := Lib.hid hLy
    have HY1 := Lib.hid (btr HX3w.out hb)
    have HVY := Lib.hid (bx_vx y1 e sy cy)
    replace k0 := keepc hb k0
    replace k1 := keepc hb k1
    replace k2 := keepc hb k2
    replace k3 := keepc hb k3
    clear hb hLy
    obtain ⟨v0, v1, v2, v3, vf⟩ := HVY.out
    have l5 : w.heap.size < y1.heap.size := World.block_lt_of_cell? _ _ k0
    have RS2 := rsame e e sy so cy cap (y1.alloc (.cells #[.int .i64 e.op, .int .i64 e.n, .string (str e.s), .slice sy e.args.length cy] 27)) (by have := HSI.out; omega) (HLY.out.1.keep (bal (bref _) _)) (HLE.out.1.keep (bal HY1.out _))
    rw [same_yes rfl] at RS2
    have RS2 := Lib.hid RS2
    go_wp2_with fail
    refine RS2.out.mono ?_
    rintro r y2 ⟨rfl, hb⟩
    have HY2 := Lib.hid (btr (bal HY1.out _) hb)
    clear hb v0 v1 v2 v3 vf
    go_wp2_with fail
    refine (LV.out _ HY2.out).mono ?_
    rintro r w9 ⟨rfl, hb9⟩
    have HB9 := Lib.hid (btr HY2.out hb9)
    clear hb9
    go_wp2_with fail
    go_ret
    exact ⟨rfl, HB9.out⟩
end Go.Proofs.YtplkphihmfhciaaGreatDoor
