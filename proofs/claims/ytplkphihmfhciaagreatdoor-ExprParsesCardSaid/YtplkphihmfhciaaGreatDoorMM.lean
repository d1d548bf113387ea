/-
  Merged: Expressions: contracts of the document's own unary and primary. Expressions: contracts of the document's own condition and chosen.
-/
import Derived.Test.YtplkphihmfhciaaGreatDoorML
/- Expressions: contracts of the document's own unary and primary. -/
namespace Go.Proofs.YtplkphihmfhciaaGreatDoor
open Go Go.RowKit Go.Lib Go.Shelf WM TM EM

set_option maxRecDepth 100000 in
set_option maxHeartbeats 4000000 in
theorem runary (wb : World) (ao : Option Addr) (c : Nat) (l : List Tok) (D : Dc wb ao l) (k r : Nat) (op : Int) (z : Int) (w : World) (hk : k < l.length) (hz : z = (r : Int)) (hr : r ≤ 7) (hW : Below wb.heap.size wb w) (ih : PC wb ao c l (k + 1) r) :
  Calls Tryz.prog 51 #[.slice ao l.length c, .int .i64 (k : Int), .int .i64 z, .int .i64 op] w fun q w' => ∃ o, E r (l.drop (k + 1)) o ∧ RD l w (un op r o) q w' := by
 have C0 := Lib.hid (fun W hW => ih ((k : Int) + 1) z W (by omega) hz hW)
 have HW := Lib.hid hW
 have hlen := D.len
 have HR := Lib.hid hr
 have hkI : (k : Int) ≤ 1000 := by omega
 clear ih hz D hW hr hlen
 go_enter Tryz.func51, Tryz.ntmps51
 go_wp2_with fail
 obtain ⟨W2, hW2⟩ : ∃ W2, (w.alloc (.cells #[.int .i64 0, .int .i64 0, .string ⟨#[]⟩, .slice none 0 0] 27)) = W2 := ⟨_, rfl⟩
 have hz0 : Zx w.heap.size W2 := by rw [← hW2]; exact Zx.new w
 have hb2 : Below w.heap.size w W2 := by rw [← hW2]; exact bal (bref _) _
 have hsz : W2.heap.size = w.heap.size + 1 := by rw [← hW2]; simp
 rw [hW2]
 have Z0 := Lib.hid hz0
 have HB2 := Lib.hid hb2
 have HSZ := Lib.hid hsz
 have HWB := Lib.hid (HW.out.trans (hb2.mono HW.out.size))
 clear hW2 hz0 hb2 hsz
 refine (C0.out W2 HWB.out).mono ?_
 rintro q w1 ⟨o, hE, hR⟩
 have HE := Lib.hid (hE.e HR.out)
 clear hE
 cases o with
 | ok e kk m =>
  obtain ⟨k', so, cap, hm, hk', rfl, hX, hc, hb1⟩ := hR
  subst hm
  have Z1 := Lib.hid (Z0.out.below hb1)
  have HB1 := Lib.hid (HB2.out.trans (hb1.mono HB2.out.size))
  have HX := Lib.hid hX
  have HC := Lib.hid hc
  have HK := Lib.hid hk'
  have HBB := Lib.hid hb1
  clear hb1 hX hc hk'
  obtain ⟨y0, y1, y2, y3, fz⟩ := Z1.out
  have lt0 := Zx.lt Z1.out
  have lt1 : w.heap.size < w1.heap.size + 1 := by omega
  have lt2 : w.heap.size < w1.heap.size + 1 + 1 := by omega
  go_wp2_with fail
  refine bodyPost_ret (res_ex3 rfl _ _ _ rfl _ _ _ _ (keepc (bal (bref _) _) (keepc (bal (bref _) _) (st4_0 Z1.out _ _ _ _))) (keepc (bal (bref _) _) (keepc (bal (bref _) _) (st4_1 Z1.out _ _ _ _))) (keepc (bal (bref _) _) (keepc (bal (bref _) _) (st4_2 Z1.out _ _ _ _))) (keepc (bal (bref _) _) (keepc (bal (bref _) _) (st4_3 Z1.out _ _ _ _))) _ _ rfl rfl) rfl ?_
  refine ⟨_, HE.out, ?_⟩
  have hN := Xa.new (n := w.heap.size + 1) (W := w1.alloc (.cells #[.int .i64 e.op, .int .i64 e.n, .string (str e.s), .slice so e.args.length cap] 27)) [(e, so, cap)] (fun x hx => by rw [List.mem_singleton] at hx; subst hx; exact ⟨((HX.out.below (bal (bref _) _)).mono (by rw [HSZ.out]; exact Nat.le_refl _)), HC.out⟩) (by have := HBB.out.size; have := HSZ.out; simp; omega) 27
  rw [show (w1.alloc (.cells #[.int .i64 e.op, .int .i64 e.n, .string (str e.s), .slice so e.args.length cap] 27)).heap.size = w1.heap.size + 1 by simp] at hN
  exact RD.ok (W := (w1.alloc (.cells #[.int .i64 e.op, .int .i64 e.n, .string (str e.s), .slice so e.args.length cap] 27)).alloc (.cells #[.int .i64 e.op, .int .i64 e.n, .string (str e.s), .slice so e.args.length cap] 27)) (e := .mk op 0 [] [e]) HK.out hN (fun h => by cases h) (by repeat (first | exact Ag.refl _ _ | refine Ag.set ?_ _ _ | refine Ag.alloc ?_ _)) (bal (bal HB1.out _) _)
 | bad m =>
  obtain ⟨k', hm, hk', rfl, hb1⟩ := hR
  subst hm
  have Z1 := Lib.hid (Z0.out.below hb1)
  have HB1 := Lib.hid (HB2.out.trans (hb1.mono HB2.out.size))
  have HK := Lib.hid hk'
  clear hb1 hk'
  obtain ⟨y0, y1, y2, y3, fz⟩ := Z1.out
  have lt0 := Zx.lt Z1.out
  have lt1 : w.heap.size < w1.heap.size + 1 := by omega
  have lt2 : w.heap.size < w1.heap.size + 1 + 1 := by omega
  go_wp2_with fail
  refine bodyPost_ret (res_ex3 rfl _ _ _ rfl _ _ _ _ (keepc (bal (bref _) _) (st4_0 Z1.out _ _ _ _)) (keepc (bal (bref _) _) (st4_1 Z1.out _ _ _ _)) (keepc (bal (bref _) _) (st4_2 Z1.out _ _ _ _)) (keepc (bal (bref _) _) (st4_3 Z1.out _ _ _ _)) _ _ rfl rfl) rfl ?_
  refine ⟨_, HE.out, ?_⟩
  exact RD.bad (W := (w1.alloc (.cells #[.int .i64 0, .int .i64 0, .string ⟨#[]⟩, .slice none 0 0] 27))) HK.out (by repeat (first | exact Ag.refl _ _ | refine Ag.set ?_ _ _ | refine Ag.alloc ?_ _)) (bal HB1.out _)
end Go.Proofs.YtplkphihmfhciaaGreatDoor

/- Expressions: contracts of the document's own condition and chosen. -/
namespace Go.Proofs.YtplkphihmfhciaaGreatDoor
open Go Go.RowKit Go.Lib Go.Shelf WM TM EM

structure Bq (b : Nat) (op : Int) (v : Value) (W : World) : Prop where
 q0 : W.cell? ⟨b, 0, none⟩ = some (.int .i64 op)
 q1 : W.cell? ⟨b, 1, none⟩ = some (.int .i64 0)
 q2 : W.cell? ⟨b, 2, none⟩ = some (.string ⟨#[]⟩)
 q3 : W.cell? ⟨b, 3, none⟩ = some v
 fz : ∀ j, W.frozen? ⟨b, j, none⟩ = false
theorem Bq.lt {b : Nat} {op : Int} {v : Value} {W : World} (h : Bq b op v W) : b < W.heap.size := World.block_lt_of_cell? W _ h.q0
theorem Bq.blk {b : Nat} {op : Int} {v : Value} {W W' : World} (h : Bq b op v W) (hs : W'.heap[b]? = W.heap[b]?) : Bq b op v W' :=
 ⟨(World.cell?_of_block (a := ⟨b, 0, none⟩) hs).trans h.q0, (World.cell?_of_block (a := ⟨b, 1, none⟩) hs).trans h.q1, (World.cell?_of_block (a := ⟨b, 2, none⟩) hs).trans h.q2, (World.cell?_of_block (a := ⟨b, 3, none⟩) hs).trans h.q3, fun j => (World.frozen?_of_block (a := ⟨b, j, none⟩) hs).trans (h.fz j)⟩
theorem Bq.below {b : Nat} {op : Int} {v : Value} {W W' : World} (h : Bq b op v W) (k : Below W.heap.size W W') : Bq b op v W' := h.blk (k.block b h.lt)
theorem Bq.put {b : Nat} {op : Int} {v v' : Value} {W : World} (h : Bq b op v W) : Bq b op v' (W.setCell ⟨b, 3, none⟩ v') := by
 refine ⟨?_, ?_, ?_, ?_, fun j => ?_⟩
 ·simp [go_sem, h.q0]
 ·simp [go_sem, h.q1]
 ·simp [go_sem, h.q2]
 ·simp [go_sem, h.q3]
 ·rw [World.frozen?_setCell]; exact h.fz j
theorem Bq.grown {b : Nat} {op : Int} {v : Value} {W W' : World} {row : Option Nat} (h : Bq b op v W) (g : W.grownBy W' row) (hr : row ≠ some b) : Bq b op v W' := h.blk (g.block b h.lt (fun e => hr e.symm))
theorem Zx.grown {b : Nat} {W W' : World} {row : Option Nat} (h : Zx b W) (g : W.grownBy W' row) (hr : row ≠ some b) : Zx b W' := h.blk (g.block b h.lt (fun e => hr e.symm))
theorem Zx.set {b b' : Nat} {W : World} (h : Zx b W) (hne : b ≠ b') (j : Nat) (v : Value) : Zx b (W.setCell ⟨b', j, none⟩ v) := h.blk (Below.heap_setCell W ⟨b', j, none⟩ v b hne)
theorem kx_new (W : World) (x : Nd) (t : TypeId) : ∀ j u, (xrow [x])[j]? = some u → (W.alloc (.cells #[.int .i64 x.1.op, .int .i64 x.1.n, .string (str x.1.s), .slice x.2.1 x.1.args.length x.2.2] t)).cell? ((⟨W.heap.size, 0, none⟩ : Addr).add j) = some u := by
 intro j u hu
 rw [Addr.add_lit, World.cell?_alloc_new, Nat.zero_add, List.getElem?_toArray]
 exact hu
theorem cw3 (p : Nat → Prop) (h : p 0 ∧ p 1 ∧ p 2) : ∀ k, k < 3 → p k := by
 intro k hk
 obtain ⟨h0, h1, h2⟩ := h
 match k, hk with
 | 0, _ => exact h0
 | 1, _ => exact h1
 | 2, _ => exact h2
theorem out_some {v : Value} {b n : Nat} {e : TypeId} {size : Nat} {l : List Value} {W : World} (h : W.ownsRow b e size v n l) {q : Nat} (hq : q < b) : v.ownBlock ≠ some q := fun e => by have := (ownP_lt h e).1; omega
set_option maxRecDepth 100000 in
set_option maxHeartbeats 8000000 in
theorem rcondition (wb : World) (ao : Option Addr) (c : Nat) (l : List Tok) (D : Dc wb ao l) (k : Nat) (w : World) (hk : k < l.length) (h0 : isT 5 wIf (l.drop k) = true) (hW : Below wb.heap.size wb w) (ih : ∀ k2, k < k2 → k2 ≤ l.length → PC wb ao c l k2 0) :
  Calls Tryz.prog 50 #[.slice ao l.length c, .int .i64 (k : Int)] w fun q w' => ∃ o, E 0 (l.drop k) o ∧ RD l w o q w' := by
 obtain ⟨i0, hi, hz0, hz1, hz2⟩ := info_parts infoEx
 have IH := Lib.hid ih
 have HW := Lib.hid hW
 have HD := Lib.hid D
 have H0 := Lib.hid h0
 have hlen := D.len
 have HKL := Lib.hid hk
 have hkI : (k : Int) ≤ 1000 := by omega
 obtain ⟨n, hn⟩ : ∃ n, l.length = n := ⟨_, rfl⟩
 have HN := Lib.hid hn
 rw [hn] at hlen ⊢
 clear ih D hW hk hn h0
 go_enter Tryz.func50, Tryz.ntmps50
 go_wp2_with fail
 obtain ⟨W3, hW3⟩ : ∃ W3, (((w.alloc (.cells #[.int .i64 0, .int .i64 0, .string ⟨#[]⟩, .slice none 0 0] 27)).alloc (.cells #[.string ⟨#[105, 102]⟩, .string ⟨#[116, 104, 101, 110]⟩, .string ⟨#[101, 108, 115, 101]⟩] 9)).alloc (.cells #[.int .i64 19, .int .i64 0, .string ⟨#[]⟩, .slice none 0 0] 27)) = W3 := ⟨_, rfl⟩
 have hz0' : Zx w.heap.size W3 := by rw [← hW3]; exact ((Zx.new w).below (bal (bref _) _)).below (bal (bref _) _)
 have hq0 : Bq (w.heap.size + 1 + 1) 19 (.slice none 0 0) W3 := by
  rw [← hW3]
  refine ⟨?_, ?_, ?_, ?_, fun j => ?_⟩ <;> simp [go_sem]
 have hb3 : Below w.heap.size w W3 := by rw [← hW3]; exact bal (bal (bal (bref _) _) _) _
 have hsz : W3.heap.size = w.heap.size + 3 := by rw [← hW3]; simp
 have x1 : ∀ i, i < 3 → W3.cell? ⟨w.heap.size + 1, i, none⟩ = some (.string (str (cw i))) := by
  rw [← hW3]
  refine cw3 _ ⟨?_, ?_, ?_⟩ <;> (simp [go_sem]; rfl)
 have X1 := Lib.hid x1
 have HB3 := Lib.hid hb3
 have HSZ := Lib.hid hsz
 have HZ3 := Lib.hid hz0'
 have HQ3 := Lib.hid hq0
 have ho3 : OE (w.heap.size + 3) (.slice none 0 0) [] W3 := OE.nil _ _
 have HO3 := Lib.hid ho3
 rw [hW3]
 clear hW3 x1 hb3 hz0' hq0 ho3 hsz
 go_loopw [1, 9] (fun y x wr => ∃ (i k' : Nat) (xs : List Nd) (v : Value), i ≤ 3 ∧ y = .int .i64 (k' : Int) ∧ x = .int .i64 (i : Int) ∧ k' ≤ n ∧ k ≤ k' ∧ Cd (l.drop k) i (xs.map (·.1)) (l.drop k') ∧ Zx w.heap.size wr ∧ Bq (w.heap.size + 1 + 1) 19 v wr ∧ OE (w.heap.size + 3) v xs wr ∧ Below (w.heap.size + 1 + 1) W3 wr) (fun _ x _ => 3 - (RowKit.intOf x).toNat)
 case atStart => exact ⟨0, k, [], _, by omega, by go_num, rfl, by have := HKL.out; have := HN.out; omega, Nat.le_refl _, ⟨rfl, rfl⟩, HZ3.out, HQ3.out, HO3.out, Below.refl _ _⟩
 case round =>
  obtain ⟨i, k', xs, v, hi3, rfl, rfl, hkn, hkk, hC, hZ, hQ, hO, hB⟩ := hrel
  have HC := Lib.hid hC
  have HZ := Lib.hid hZ
  have HQ := Lib.hid hQ
  have HO := Lib.hid hO
  have HB := Lib.hid hB
  have HKN := Lib.hid hkn
  have HKK := Lib.hid hkk
  have hlt3 : w.heap.size + 3 ≤ wr.heap.size := by have := HB.out.size; have := HSZ.out; omega
  have HS := Lib.hid hlt3
  have HBW := Lib.hid ((HW.out.trans (HB3.out.mono HW.out.size)).trans (hB.mono (by have := HW.out.size; omega)))
  have HBR := Lib.hid (HB3.out.trans (hB.mono (by omega)))
  have hkI2 : (k' : Int) ≤ 1000 := by omega
  clear hC hB hkn hkk hlt3
  by_cases hi3e : i = 3
  ·subst hi3e
   have hsh := hO.shape
   obtain ⟨so, cap, rfl, hsc⟩ := hsh
   have hxl : xs.length = 3 := by have := HC.out.len; rw [List.length_map] at this; exact this
   rw [hxl] at hO hQ
   have HXA := Lib.hid hO.xa
   have HSC := Lib.hid hsc
   have HCA := Lib.hid HC.out.all
   have HXL := Lib.hid hxl
   clear hO hxl hsc
   obtain ⟨p0, p1, p2, p3, pf⟩ := hQ
   clear hZ
   obtain ⟨y0, y1, y2, y3, fz⟩ := HZ.out
   have lt0 := Zx.lt HZ.out
   have lt1 : w.heap.size < wr.heap.size + 1 := by omega
   have lt2 : w.heap.size < wr.heap.size + 1 + 1 := by omega
   go_wp2_with fail
   refine bodyPost_ret (res_ex3 rfl _ _ _ rfl _ _ _ _ (st4_0 HZ.out _ _ _ _) (st4_1 HZ.out _ _ _ _) (st4_2 HZ.out _ _ _ _) (st4_3 HZ.out _ _ _ _) _ _ rfl rfl) rfl ?_
   refine ⟨_, HCA.out, ?_⟩
   have hr := fun U (hA : Ag w.heap.size U wr) => RD.ok (l := l) (w := w) (W := wr) (e := .mk 19 0 [] (xs.map (·.1))) (kk := 0) (so := so) (cap := cap) (by rw [HN.out]; exact HKN.out) (HXA.out.mono (by omega)) HSC.out hA HBR.out
   rw [show (Ex.mk 19 0 [] (xs.map (·.1))).args.length = 3 by show (xs.map (·.1)).length = 3; rw [List.length_map]; exact HXL.out] at hr
   exact hr _ (by repeat (first | exact Ag.refl _ _ | refine Ag.set ?_ _ _ | refine Ag.alloc ?_ _))
  ·have hi3 : i < 3 := by omega
   have hiz : (i : Int) < 3 := by omega
   have c1 : wr.cell? ⟨w.heap.size + 1, i, none⟩ = some (.string (str (cw i))) := (World.cell?_of_block (a := ⟨w.heap.size + 1, i, none⟩) (HB.out.block _ (show w.heap.size + 1 < w.heap.size + 1 + 1 by omega))).trans (X1.out i hi3)
   have IS0 := ris ao c l k' 5 (cw i) wr (HD.out.lie.keep HBW.out) (by omega) (by rw [HN.out]; omega)
   rw [HN.out] at IS0
   have IS := Lib.hid IS0
   clear IS0
   obtain ⟨s, hs⟩ : ∃ s, cw i = s := ⟨_, rfl⟩
   have HS1 := Lib.hid hs
   rw [hs] at c1 IS
   clear hs
   cases ht : isT 5 s (l.drop k') with
   | false =>
    rw [ht] at IS
    have HCN := Lib.hid (HC.out.none (by omega) H0.out (by rw [HS1.out]; exact ht))
    clear ht hQ hO
    clear hZ
    obtain ⟨y0, y1, y2, y3, fz⟩ := HZ.out
    have lt0 := Zx.lt HZ.out
    have lt1 : w.heap.size < wr.heap.size + 1 := by omega
    have lt2 : w.heap.size < wr.heap.size + 1 + 1 := by omega
    go_wp2_with fail
    refine IS.out.mono ?_
    rintro q w1 ⟨rfl, hw1⟩
    subst hw1
    go_wp2_with fail
    refine bodyPost_ret (res_ex3 rfl _ _ _ rfl _ _ _ _ (st4_0 HZ.out _ _ _ _) (st4_1 HZ.out _ _ _ _) (st4_2 HZ.out _ _ _ _) (st4_3 HZ.out _ _ _ _) _ _ rfl rfl) rfl ?_
    refine ⟨_, HCN.out, ?_⟩
    exact RD.bad (W := wr) (by rw [HN.out]; exact HKN.out) (by repeat (first | exact Ag.refl _ _ | refine Ag.set ?_ _ _ | refine Ag.alloc ?_ _)) HBR.out
   | true =>
    rw [ht] at IS
    have hkl := isT_len ht
    have PCK0 := IH.out (k' + 1) (by have := HKK.out; omega) (by omega) ((k' : Int) + 1) 0 wr (by omega) rfl HBW.out
    rw [HN.out] at PCK0
    have PCK := Lib.hid PCK0
    clear PCK0
    have HTT := Lib.hid (show isT 5 (cw i) (l.drop k') = true by rw [HS1.out]; exact ht)
    have HKL2 := Lib.hid hkl
    clear ht hkl
    go_wp2_with fail
    refine IS.out.mono ?_
    rintro q w1 ⟨rfl, hw1⟩
    subst hw1
    go_wp2_with fail
    refine PCK.out.mono ?_
    rintro q w1 ⟨o, hE, hR⟩
    cases o with
    | bad m =>
     obtain ⟨k3, hm, hk3, rfl, hb1⟩ := hR
     subst hm
     have hE0 := hE.e (by omega)
     rw [← tl] at hE0
     have HCF := Lib.hid (HC.out.fails (by omega) HTT.out hE0)
     have Z1 := Lib.hid (hZ.below hb1)
     have HB1 := Lib.hid (HBR.out.trans (hb1.mono (by have := HS.out; omega)))
     have HK3 := Lib.hid hk3
     clear hE hE0 hb1 hk3 hQ hO hZ
     obtain ⟨y0, y1, y2, y3, fz⟩ := Z1.out
     have lt0 := Zx.lt Z1.out
     have lt1 : w.heap.size < w1.heap.size + 1 := by omega
     have lt2 : w.heap.size < w1.heap.size + 1 + 1 := by omega
     go_wp2_with fail
     refine bodyPost_ret (res_ex3 rfl _ _ _ rfl _ _ _ _ (keepc (bal (bref _) _) (st4_0 Z1.out _ _ _ _)) (keepc (bal (bref _) _) (st4_1 Z1.out _ _ _ _)) (keepc (bal (bref _) _) (st4_2 Z1.out _ _ _ _)) (keepc (bal (bref _) _) (st4_3 Z1.out _ _ _ _)) _ _ rfl rfl) rfl ?_
     refine ⟨_, HCF.out, ?_⟩
     exact RD.bad (W := (w1.alloc (.cells #[.int .i64 0, .int .i64 0, .string ⟨#[]⟩, .slice none 0 0] 27))) HK3.out (by repeat (first | exact Ag.refl _ _ | refine Ag.set ?_ _ _ | refine Ag.alloc ?_ _)) (bal HB1.out _)
    | ok e kk m =>
     obtain ⟨k3, so, cap, hm, hk3, rfl, hX, hc, hb1⟩ := hR
     subst hm
     have hE0 := hE.e (by omega)
     have hle := hE0.siz
     rw [← tl] at hE0
     have HE0 := Lib.hid hE0
     have HK3 : Hid (k3 ≤ n ∧ k' < k3) := Lib.hid ⟨by rw [← HN.out]; exact hk3, by rw [List.length_drop, List.length_drop] at hle; have := siz_pos e; omega⟩
     have Z1 := Lib.hid (hZ.below hb1)
     have Q1 := Lib.hid (hQ.below hb1)
     have O1 := Lib.hid (hO.keep hb1)
     have HB1 := Lib.hid (HB.out.trans (hb1.mono (by have := HS.out; omega)))
     have HX := Lib.hid hX
     have HCC := Lib.hid hc
     have HOW := Lib.hid (fun g (hg : v.ownBlock = some g) => (ownP_lt hO.1 hg).2)
     have hs1 : wr.heap.size ≤ w1.heap.size := hb1.size
     have HS1' := Lib.hid hs1
     have hlt3 := HS.out
     have hxl : xs.length = i := by have := HC.out.len; rw [List.length_map] at this; exact this
     have HXL := Lib.hid hxl
     clear hE hE0 hb1 hk3 hQ hO hX hc hle hxl
     obtain ⟨p0, p1, p2, p3, pf⟩ := Q1.out
     have lt0 : w.heap.size < w1.heap.size := by omega
     have lt1 : w.heap.size + 1 + 1 < w1.heap.size := by omega
     have lt2 : w.heap.size + 1 + 1 < w1.heap.size + 1 := by omega
     have lt3 : w.heap.size + 1 + 1 < w1.heap.size + 1 + 1 := by omega
     go_wp2_with (at_builtin; go_loud (refine wpList_append_own_at _ rfl (.tmp 44) (.tmp 46) 25 rfl (w.heap.size + 3) 27 i0 _ 4 56 Tryz.underlying25 hi hz0 hz1 hz2 rfl (by decide) v xs.length (xrow xs) rfl (own_below O1.out.1 (bal (bal (bref w1) _) _)) ⟨w1.heap.size + 1, 0, none⟩ 1 1 (xrow [(e, so, cap)]) rfl rfl (by have hq := kx_new (w1.alloc (.cells #[.int .i64 e.op, .int .i64 e.n, .string (str e.s), .slice so e.args.length cap] 27)) (e, so, cap) 27; rw [show (w1.alloc (.cells #[.int .i64 e.op, .int .i64 e.n, .string (str e.s), .slice so e.args.length cap] 27)).heap.size = w1.heap.size + 1 by simp] at hq; exact hq) (xrow_one _) (by unfold maxLen; have := HXL.out; omega) (by have := HXL.out; omega) (by simp; omega) ?_); intro v' w4 ox gx _ hl; have HA4 := Lib.hid (OE.app (O1.out.keep (bal (bal (bref w1) _) _)) (e, so, cap) (HX.out.below (bal (bal (bref _) _) _)) HCC.out HOW.out (by omega) ox gx (by simpa using hl)); obtain ⟨so4, cap4, hv4, hsc4⟩ := HA4.out.shape; rw [show (xs ++ [(e, so, cap)]).length = xs.length + 1 by simp] at hv4; subst hv4; have Z4 := Lib.hid ((Z1.out.below (bal (bal (bref w1) _) _)).grown gx (out_some O1.out.1 (by omega))); have Q4 := Lib.hid ((Q1.out.below (bal (bal (bref w1) _) _)).grown gx (out_some O1.out.1 (by omega))); have B4 := Lib.hid ((HB1.out.trans ((bal (bal (bref w1) _) _).mono (by omega))).trans ((Below.refl (w.heap.size + 1 + 1) _).grown gx (by simp; omega) (fun b hb => by have := (ownP_lt O1.out.1 hb).1; omega))); have r0 := Q4.out.q0; have r1 := Q4.out.q1; have r2 := Q4.out.q2; have r3 := Q4.out.q3; have rf := Q4.out.fz; clear ox gx hl hsc4 p0 p1 p2 p3 pf)
     go_roundw
     case rel => exact ⟨i + 1, k3, xs ++ [(e, so, cap)], _, by omega, rfl, by go_num, HK3.out.1, by have := HK3.out.2; have := HKK.out; omega, ⟨xs.map (·.1), l.drop k', e, kk, HC.out, HTT.out, HE0.out, by rw [List.map_append]; rfl⟩, Z4.out.set (by omega) _ _, Q4.out.put, HA4.out.set (by omega) _ _, B4.out.setCell (p := ⟨w.heap.size + 1 + 1, 3, none⟩) (Nat.le_refl _) _⟩
     case measure => simp [RowKit.intOf]; omega
set_option maxRecDepth 100000 in
set_option maxHeartbeats 8000000 in
theorem rchosen (wb : World) (ao : Option Addr) (c : Nat) (l : List Tok) (D : Dc wb ao l) (k : Nat) (op : Int) (w : World) (hk : k < l.length) (hW : Below wb.heap.size wb w) (ih : ∀ k2, k < k2 → k2 ≤ l.length → PC wb ao c l k2 0) :
  Calls Tryz.prog 76 #[.slice ao l.length c, .int .i64 (k : Int), .int .i64 op] w fun q w' => ∃ o, Q op (l.drop (k + 1)) o ∧ RD l w o q w' := by
 obtain ⟨i0, hi, hz0, hz1, hz2⟩ := info_parts infoEx
 have IH := Lib.hid ih
 have HW := Lib.hid hW
 have HD := Lib.hid D
 have hlen := D.len
 have HKL := Lib.hid hk
 have hkI : (k : Int) ≤ 1000 := by omega
 obtain ⟨n, hn⟩ : ∃ n, l.length = n := ⟨_, rfl⟩
 have HN := Lib.hid hn
 rw [hn] at hlen ⊢
 clear ih D hW hk hn
 go_enter Tryz.func76, Tryz.ntmps76
 go_wp2_with fail
 obtain ⟨W3, hW3⟩ : ∃ W3, (((w.alloc (.cells #[.int .i64 0, .int .i64 0, .string ⟨#[]⟩, .slice none 0 0] 27)).alloc (.cells #[.string ⟨#[40]⟩, .string ⟨#[44]⟩, .string ⟨#[41]⟩] 9)).alloc (.cells #[.int .i64 op, .int .i64 0, .string ⟨#[]⟩, .slice none 0 0] 27)) = W3 := ⟨_, rfl⟩
 have hz0' : Zx w.heap.size W3 := by rw [← hW3]; exact ((Zx.new w).below (bal (bref _) _)).below (bal (bref _) _)
 have hq0 : Bq (w.heap.size + 1 + 1) op (.slice none 0 0) W3 := by
  rw [← hW3]
  refine ⟨?_, ?_, ?_, ?_, fun j => ?_⟩ <;> simp [go_sem]
 have hb3 : Below w.heap.size w W3 := by rw [← hW3]; exact bal (bal (bal (bref _) _) _) _
 have hsz : W3.heap.size = w.heap.size + 3 := by rw [← hW3]; simp
 have x1 : ∀ i, i < 3 → W3.cell? ⟨w.heap.size + 1, i, none⟩ = some (.string (str (cs i))) := by
  rw [← hW3]
  refine cw3 _ ⟨?_, ?_, ?_⟩ <;> (simp [go_sem]; rfl)
 have X1 := Lib.hid x1
 have HB3 := Lib.hid hb3
 have HSZ := Lib.hid hsz
 have HZ3 := Lib.hid hz0'
 have HQ3 := Lib.hid hq0
 have ho3 : OE (w.heap.size + 3) (.slice none 0 0) [] W3 := OE.nil _ _
 have HO3 := Lib.hid ho3
 rw [hW3]
 clear hW3 x1 hb3 hz0' hq0 ho3 hsz
 go_loopw [1, 11] (fun y x wr => ∃ (i k' : Nat) (xs : List Nd) (v : Value), i ≤ 2 ∧ y = .int .i64 (k' : Int) ∧ x = .int .i64 (i : Int) ∧ k' ≤ n ∧ (k + 1) ≤ k' ∧ Ch (l.drop (k + 1)) i (xs.map (·.1)) (l.drop k') ∧ Zx w.heap.size wr ∧ Bq (w.heap.size + 1 + 1) op v wr ∧ OE (w.heap.size + 3) v xs wr ∧ Below (w.heap.size + 1 + 1) W3 wr) (fun _ x _ => 3 - (RowKit.intOf x).toNat)
 case atStart => exact ⟨0, (k + 1), [], _, by omega, by go_num, rfl, by have := HKL.out; have := HN.out; omega, Nat.le_refl _, ⟨rfl, rfl⟩, HZ3.out, HQ3.out, HO3.out, Below.refl _ _⟩
 case round =>
  obtain ⟨i, k', xs, v, hi3, rfl, rfl, hkn, hkk, hC, hZ, hQ, hO, hB⟩ := hrel
  have HC := Lib.hid hC
  have HZ := Lib.hid hZ
  have HQ := Lib.hid hQ
  have HO := Lib.hid hO
  have HB := Lib.hid hB
  have HKN := Lib.hid hkn
  have HKK := Lib.hid hkk
  have hlt3 : w.heap.size + 3 ≤ wr.heap.size := by have := HB.out.size; have := HSZ.out; omega
  have HS := Lib.hid hlt3
  have HBW := Lib.hid ((HW.out.trans (HB3.out.mono HW.out.size)).trans (hB.mono (by have := HW.out.size; omega)))
  have HBR := Lib.hid (HB3.out.trans (hB.mono (by omega)))
  have hkI2 : (k' : Int) ≤ 1000 := by omega
  clear hC hB hkn hkk hlt3
  have hi3 : i < 3 := by omega
  have hiz : (i : Int) < 3 := by omega
  have c1 : wr.cell? ⟨w.heap.size + 1, i, none⟩ = some (.string (str (cs i))) := (World.cell?_of_block (a := ⟨w.heap.size + 1, i, none⟩) (HB.out.block _ (show w.heap.size + 1 < w.heap.size + 1 + 1 by omega))).trans (X1.out i hi3)
  have IS0 := ris ao c l k' 4 (cs i) wr (HD.out.lie.keep HBW.out) (by omega) (by rw [HN.out]; omega)
  rw [HN.out] at IS0
  have IS := Lib.hid IS0
  clear IS0
  obtain ⟨s, hs⟩ : ∃ s, cs i = s := ⟨_, rfl⟩
  have HS1 := Lib.hid hs
  rw [hs] at c1 IS
  clear hs
  cases ht : isT 4 s (l.drop k') with
  | false =>
   rw [ht] at IS
   have HCN := Lib.hid (HC.out.none (q := op) (by omega) (by rw [HS1.out]; exact ht))
   clear ht hQ hO
   clear hZ
   obtain ⟨y0, y1, y2, y3, fz⟩ := HZ.out
   have lt0 := Zx.lt HZ.out
   have lt1 : w.heap.size < wr.heap.size + 1 := by omega
   have lt2 : w.heap.size < wr.heap.size + 1 + 1 := by omega
   go_wp2_with fail
   refine IS.out.mono ?_
   rintro q w1 ⟨rfl, hw1⟩
   subst hw1
   go_wp2_with fail
   refine bodyPost_ret (res_ex3 rfl _ _ _ rfl _ _ _ _ (st4_0 HZ.out _ _ _ _) (st4_1 HZ.out _ _ _ _) (st4_2 HZ.out _ _ _ _) (st4_3 HZ.out _ _ _ _) _ _ rfl rfl) rfl ?_
   refine ⟨_, HCN.out, ?_⟩
   exact RD.bad (W := wr) (by rw [HN.out]; exact HKN.out) (by repeat (first | exact Ag.refl _ _ | refine Ag.set ?_ _ _ | refine Ag.alloc ?_ _)) HBR.out
  | true =>
   rw [ht] at IS
   have hkl := isT_len ht
   by_cases hi2 : i = 2
   ·subst hi2
    have hsh := hO.shape
    obtain ⟨so, cap, rfl, hsc⟩ := hsh
    have hxl : xs.length = 2 := by have := HC.out.len; rw [List.length_map] at this; exact this
    rw [hxl] at hO hQ
    have HXA := Lib.hid hO.xa
    have HSC := Lib.hid hsc
    have HCA := Lib.hid (HC.out.all (q := op) (by rw [HS1.out]; exact ht))
    have HXL := Lib.hid hxl
    have HKL2 := Lib.hid hkl
    clear hO hxl hsc ht hkl
    obtain ⟨p0, p1, p2, p3, pf⟩ := hQ
    clear hZ
    obtain ⟨y0, y1, y2, y3, fz⟩ := HZ.out
    have lt0 := Zx.lt HZ.out
    have lt1 : w.heap.size < wr.heap.size + 1 := by omega
    have lt2 : w.heap.size < wr.heap.size + 1 + 1 := by omega
    go_wp2_with fail
    refine IS.out.mono ?_
    rintro q w1 ⟨rfl, hw1⟩
    subst hw1
    go_wp2_with fail
    refine bodyPost_ret (res_ex3 rfl _ _ _ rfl _ _ _ _ (st4_0 HZ.out _ _ _ _) (st4_1 HZ.out _ _ _ _) (st4_2 HZ.out _ _ _ _) (st4_3 HZ.out _ _ _ _) _ _ rfl rfl) rfl ?_
    refine ⟨_, HCA.out, ?_⟩
    have hr := fun U (hA : Ag w.heap.size U wr) => RD.ok (l := l) (w := w) (W := wr) (e := .mk op 0 [] (xs.map (·.1))) (kk := 8) (k' := k' + 1) (so := so) (cap := cap) (by have := HKL2.out; omega) (HXA.out.mono (by omega)) HSC.out hA HBR.out
    rw [show (Ex.mk op 0 [] (xs.map (·.1))).args.length = 2 by show (xs.map (·.1)).length = 2; rw [List.length_map]; exact HXL.out] at hr
    rw [tl]
    exact hr _ (by repeat (first | exact Ag.refl _ _ | refine Ag.set ?_ _ _ | refine Ag.alloc ?_ _))
   have hi2' : i < 2 := by omega
   have g2 : ((i : Int) == 2) = false := by rw [beq_eq_false_iff_ne]; omega
   have PCK0 := IH.out (k' + 1) (by have := HKK.out; omega) (by omega) ((k' : Int) + 1) 0 wr (by omega) rfl HBW.out
   rw [HN.out] at PCK0
   have PCK := Lib.hid PCK0
   clear PCK0
   have HTT := Lib.hid (show isT 4 (cs i) (l.drop k') = true by rw [HS1.out]; exact ht)
   have HKL2 := Lib.hid hkl
   clear ht hkl
   go_wp2_with fail
   refine IS.out.mono ?_
   rintro q w1 ⟨rfl, hw1⟩
   subst hw1
   go_wp2_with fail
   refine PCK.out.mono ?_
   rintro q w1 ⟨o, hE, hR⟩
   cases o with
   | bad m =>
    obtain ⟨k3, hm, hk3, rfl, hb1⟩ := hR
    subst hm
    have hE0 := hE.e (by omega)
    rw [← tl] at hE0
    have HCF := Lib.hid (HC.out.fails (q := op) (by omega) HTT.out hE0)
    have Z1 := Lib.hid (hZ.below hb1)
    have HB1 := Lib.hid (HBR.out.trans (hb1.mono (by have := HS.out; omega)))
    have HK3 := Lib.hid hk3
    clear hE hE0 hb1 hk3 hQ hO hZ
    obtain ⟨y0, y1, y2, y3, fz⟩ := Z1.out
    have lt0 := Zx.lt Z1.out
    have lt1 : w.heap.size < w1.heap.size + 1 := by omega
    have lt2 : w.heap.size < w1.heap.size + 1 + 1 := by omega
    go_wp2_with fail
    refine bodyPost_ret (res_ex3 rfl _ _ _ rfl _ _ _ _ (keepc (bal (bref _) _) (st4_0 Z1.out _ _ _ _)) (keepc (bal (bref _) _) (st4_1 Z1.out _ _ _ _)) (keepc (bal (bref _) _) (st4_2 Z1.out _ _ _ _)) (keepc (bal (bref _) _) (st4_3 Z1.out _ _ _ _)) _ _ rfl rfl) rfl ?_
    refine ⟨_, HCF.out, ?_⟩
    exact RD.bad (W := (w1.alloc (.cells #[.int .i64 0, .int .i64 0, .string ⟨#[]⟩, .slice none 0 0] 27))) HK3.out (by repeat (first | exact Ag.refl _ _ | refine Ag.set ?_ _ _ | refine Ag.alloc ?_ _)) (bal HB1.out _)
   | ok e kk m =>
    obtain ⟨k3, so, cap, hm, hk3, rfl, hX, hc, hb1⟩ := hR
    subst hm
    have hE0 := hE.e (by omega)
    have hle := hE0.siz
    rw [← tl] at hE0
    have HE0 := Lib.hid hE0
    have HK3 : Hid (k3 ≤ n ∧ k' < k3) := Lib.hid ⟨by rw [← HN.out]; exact hk3, by rw [List.length_drop, List.length_drop] at hle; have := siz_pos e; omega⟩
    have Z1 := Lib.hid (hZ.below hb1)
    have Q1 := Lib.hid (hQ.below hb1)
    have O1 := Lib.hid (hO.keep hb1)
    have HB1 := Lib.hid (HB.out.trans (hb1.mono (by have := HS.out; omega)))
    have HX := Lib.hid hX
    have HCC := Lib.hid hc
    have HOW := Lib.hid (fun g (hg : v.ownBlock = some g) => (ownP_lt hO.1 hg).2)
    have hs1 : wr.heap.size ≤ w1.heap.size := hb1.size
    have HS1' := Lib.hid hs1
    have hlt3 := HS.out
    have hxl : xs.length = i := by have := HC.out.len; rw [List.length_map] at this; exact this
    have HXL := Lib.hid hxl
    clear hE hE0 hb1 hk3 hQ hO hX hc hle hxl
    obtain ⟨p0, p1, p2, p3, pf⟩ := Q1.out
    have lt0 : w.heap.size < w1.heap.size := by omega
    have lt1 : w.heap.size + 1 + 1 < w1.heap.size := by omega
    have lt2 : w.heap.size + 1 + 1 < w1.heap.size + 1 := by omega
    have lt3 : w.heap.size + 1 + 1 < w1.heap.size + 1 + 1 := by omega
    go_wp2_with (at_builtin; go_loud (refine wpList_append_own_at _ rfl (.tmp 52) (.tmp 54) 25 rfl (w.heap.size + 3) 27 i0 _ 4 56 Tryz.underlying25 hi hz0 hz1 hz2 rfl (by decide) v xs.length (xrow xs) rfl (own_below O1.out.1 (bal (bal (bref w1) _) _)) ⟨w1.heap.size + 1, 0, none⟩ 1 1 (xrow [(e, so, cap)]) rfl rfl (by have hq := kx_new (w1.alloc (.cells #[.int .i64 e.op, .int .i64 e.n, .string (str e.s), .slice so e.args.length cap] 27)) (e, so, cap) 27; rw [show (w1.alloc (.cells #[.int .i64 e.op, .int .i64 e.n, .string (str e.s), .slice so e.args.length cap] 27)).heap.size = w1.heap.size + 1 by simp] at hq; exact hq) (xrow_one _) (by unfold maxLen; have := HXL.out; omega) (by have := HXL.out; omega) (by simp; omega) ?_); intro v' w4 ox gx _ hl; have HA4 := Lib.hid (OE.app (O1.out.keep (bal (bal (bref w1) _) _)) (e, so, cap) (HX.out.below (bal (bal (bref _) _) _)) HCC.out HOW.out (by omega) ox gx (by simpa using hl)); obtain ⟨so4, cap4, hv4, hsc4⟩ := HA4.out.shape; rw [show (xs ++ [(e, so, cap)]).length = xs.length + 1 by simp] at hv4; subst hv4; have Z4 := Lib.hid ((Z1.out.below (bal (bal (bref w1) _) _)).grown gx (out_some O1.out.1 (by omega))); have Q4 := Lib.hid ((Q1.out.below (bal (bal (bref w1) _) _)).grown gx (out_some O1.out.1 (by omega))); have B4 := Lib.hid ((HB1.out.trans ((bal (bal (bref w1) _) _).mono (by omega))).trans ((Below.refl (w.heap.size + 1 + 1) _).grown gx (by simp; omega) (fun b hb => by have := (ownP_lt O1.out.1 hb).1; omega))); have r0 := Q4.out.q0; have r1 := Q4.out.q1; have r2 := Q4.out.q2; have r3 := Q4.out.q3; have rf := Q4.out.fz; clear ox gx hl hsc4 p0 p1 p2 p3 pf)
    go_roundw
    case rel => exact ⟨i + 1, k3, xs ++ [(e, so, cap)], _, by omega, rfl, by go_num, HK3.out.1, by have := HK3.out.2; have := HKK.out; omega, ⟨xs.map (·.1), l.drop k', e, kk, HC.out, HTT.out, HE0.out, by rw [List.map_append]; rfl⟩, Z4.out.set (by omega) _ _, Q4.out.put, HA4.out.set (by omega) _ _, B4.out.setCell (p := ⟨w.heap.size + 1 + 1, 3, none⟩) (Nat.le_refl _) _⟩
    case measure => simp [RowKit.intOf]; omega
end Go.Proofs.YtplkphihmfhciaaGreatDoor
