/-
  The parser: expression; Parse's reading.
-/
import Derived.Test.YtplkphihmfhciaaGreatDoorGH
namespace Go.Proofs.YtplkphihmfhciaaGreatDoor
open Go Go.RowKit Go.Lib Go.Shelf WM TM EM

def Xn (n b : Nat) (so : Option Addr) (l : List Ex) (W : World) : Prop := ∀ W' : World, W.heap.size ≤ W'.heap.size → (∀ q, n ≤ q → q ≠ b → q < W.heap.size → W'.heap[q]? = W.heap[q]?) → ExprsAt so l W'
theorem Xn.mv {n b : Nat} {so : Option Addr} {l : List Ex} {W W' : World} (h : Xn n b so l W) (hs : W.heap.size ≤ W'.heap.size) (hk : ∀ q, n ≤ q → q ≠ b → q < W.heap.size → W'.heap[q]? = W.heap[q]?) : Xn n b so l W' :=
 fun W'' hs' hk' => h W'' (Nat.le_trans hs hs') (fun q hq hb hl => (hk' q hq hb (Nat.lt_of_lt_of_le hl hs)).trans (hk q hq hb hl))
theorem Xn.xa {n b : Nat} {so : Option Addr} {l : List Ex} {W : World} (h : Xn n b so l W) : Xa n so l W :=
 fun W' hs hk => h W' hs (fun q hq _ hl => hk q hq hl)
theorem Xn.of_new {n b : Nat} {so : Option Addr} {l : List Ex} {W W' : World} (h : Xa n so l W) (hb : W.heap.size ≤ b) (hB : Below W.heap.size W W') : Xn n b so l W' :=
 fun W'' hs' hk' => h W'' (Nat.le_trans hB.size hs') (fun q hq hl => (hk' q hq (by omega) (Nat.lt_of_lt_of_le hl hB.size)).trans (hB.block q hl))
theorem Xn.of_up {n m b : Nat} {so : Option Addr} {l : List Ex} {W : World} (h : Xa m so l W) (hb : b < m) (hn : n ≤ m) : Xn n b so l W :=
 fun W' hs hk => h W' hs (fun q hq hl => hk q (by omega) (by omega) hl)
theorem Xn.kp {n b pb : Nat} {so : Option Addr} {l : List Ex} {W W' : World} (h : Xn n b so l W) (k : Kp pb W W') (hp : pb < n) : Xn n b so l W' :=
 h.mv k.size (fun q hq _ hl => k.keeps q hl (by omega))
theorem Xn.below {n b : Nat} {so : Option Addr} {l : List Ex} {W W' : World} (h : Xn n b so l W) (hb : Below W.heap.size W W') : Xn n b so l W' :=
 h.mv hb.size (fun q _ _ hl => hb.block q hl)
theorem Xn.set {n b : Nat} {so : Option Addr} {l : List Ex} {W : World} (h : Xn n b so l W) (j : Nat) (v : Value) : Xn n b so l (W.setCell ⟨b, j, none⟩ v) :=
 h.mv (by simp [World.setCell]) (fun q _ hb _ => Below.heap_setCell W ⟨b, j, none⟩ v q hb)
theorem Xn.new {n b : Nat} {W : World} (xs : List Nd) (h : ∀ x ∈ xs, Xn n b x.2.1 x.1.args W ∧ (x.2.1 = none → x.2.2 = 0)) (hn : n ≤ W.heap.size) (hb : b < W.heap.size) (t : TypeId) : Xn n b (some ⟨W.heap.size, 0, none⟩) (xs.map (·.1)) (W.alloc (.cells (xrow xs).toArray t)) := by
 intro W' hs hk
 have hsz : (W.alloc (.cells (xrow xs).toArray t)).heap.size = W.heap.size + 1 := by simp
 rw [hsz] at hs hk
 have hB := hk W.heap.size hn (by omega) (by omega)
 refine ExprsAt.mk fun i hi => ?_
 rw [List.length_map] at hi
 have hx : (xs.map (·.1)).getD i E0 = xs[i].1 := by simp [List.getD, hi]
 have hc : ∀ j, j < 4 → W'.cell? ⟨W.heap.size, 0 + i * 4 + j, none⟩ = (xcs xs[i])[j]? := by
  intro j hj
  rw [World.cell?_of_block (a := ⟨W.heap.size, 0 + i * 4 + j, none⟩) hB, World.cell?_alloc_new, Nat.zero_add, List.getElem?_toArray]
  exact xrow_at xs i hi j hj
 obtain ⟨h1, h2⟩ := h xs[i] (List.getElem_mem hi)
 rw [hx]
 refine ⟨W.heap.size, 0, xs[i].2.1, xs[i].2.2, rfl, by omega, hc 0 (by omega), hc 1 (by omega), hc 2 (by omega), hc 3 (by omega), ?_, h2⟩
 exact h1 W' (by omega) (fun q hq hqb hl => (hk q hq hqb (by omega)).trans ((bal (bref W) _).block q hl))
def Ox (b : Nat) (P ρ κ : Int) (Y : ByteArray) (W : World) : Prop := W.cell? ⟨b, 0, none⟩ = some (.int .i64 P) ∧ W.cell? ⟨b, 1, none⟩ = some (.int .i64 ρ) ∧ W.cell? ⟨b, 2, none⟩ = some (.int .i64 κ) ∧ W.cell? ⟨b, 3, none⟩ = some (.string Y)
theorem Ox.blk {b : Nat} {P ρ κ : Int} {Y : ByteArray} {W W' : World} (h : Ox b P ρ κ Y W) (hs : W'.heap[b]? = W.heap[b]?) : Ox b P ρ κ Y W' :=
 ⟨(World.cell?_of_block (a := ⟨b, 0, none⟩) hs).trans h.1, (World.cell?_of_block (a := ⟨b, 1, none⟩) hs).trans h.2.1, (World.cell?_of_block (a := ⟨b, 2, none⟩) hs).trans h.2.2.1, (World.cell?_of_block (a := ⟨b, 3, none⟩) hs).trans h.2.2.2⟩
theorem Ox.lt {b : Nat} {P ρ κ : Int} {Y : ByteArray} {W : World} (h : Ox b P ρ κ Y W) : b < W.heap.size := World.block_lt_of_cell? W _ h.1
theorem Ox.below {b : Nat} {P ρ κ : Int} {Y : ByteArray} {W W' : World} (h : Ox b P ρ κ Y W) (k : Below W.heap.size W W') : Ox b P ρ κ Y W' := h.blk (k.block b h.lt)
theorem Ox.kp {b pb : Nat} {P ρ κ : Int} {Y : ByteArray} {W W' : World} (h : Ox b P ρ κ Y W) (k : Kp pb W W') (hne : pb < b) : Ox b P ρ κ Y W' := h.blk (k.keeps b h.lt (by omega))
theorem Ox.set {b q : Nat} {P ρ κ : Int} {Y : ByteArray} {W : World} (h : Ox b P ρ κ Y W) (hq : q ≠ b) (j : Nat) (v : Value) : Ox b P ρ κ Y (W.setCell ⟨q, j, none⟩ v) := h.blk (Below.heap_setCell W ⟨q, j, none⟩ v b (Ne.symm hq))
theorem row_inf {p : Int} (h : p = 0 ∨ p ∈ infs) : 0 ≤ p ∧ p < 20 ∧ ∃ P ρ κ y, rowO p.toNat = (P, ρ, κ, y) ∧ 0 ≤ ρ ∧ ρ ≤ 9 ∧ (p = 0 → ρ = 0) ∧ (p ∈ infs → ρ = ((rk p : Nat) : Int) + 1 ∧ (if ρ = 5 then 6 else ρ) = ((lr p : Nat) : Int) + 1) := by
 rcases h with rfl | h
 ·exact ⟨by omega, by omega, 0, 0, 0, [], rfl, by omega, by omega, fun _ => rfl, fun h => by revert h; decide⟩
 ·obtain ⟨h1, h2, h3, h4⟩ := inf_range h
  obtain ⟨r1, r2, _, r4, r5, r6, r7, r8⟩ := inf_ranks h
  refine ⟨by omega, by omega, _, _, _, _, row_of h1 h2, by omega, by omega, fun h => absurd h r8, fun _ => ⟨rfl, ?_⟩⟩
  split
  ·rw [r6 (by omega)]; rfl
  ·rw [r7 (by omega)]
structure Lo (wb : World) (pb : Nat) (ao : Option Addr) (c : Nat) (l : List Tok) (w0 : World) (b5 r : Nat) (o : Out) (gk : Nat) (x : Value) (W : World) (e : Ex) (q k : Nat) (so : Option Addr) (cap : Nat) : Prop where
 ho : lp gk r e q (l.drop k) = some o
 x : x = .int .i64 ((q : Int) + 1)
 p : Pa wb pb ao c l k W
 k : Kp pb w0 W
 z : Zx w0.heap.size W
 v : Vx b5 e so cap W
 a : Xn (w0.heap.size + 1) b5 so e.args W
 s : so = none → cap = 0
theorem Lo.next {wb : World} {pb : Nat} {ao : Option Addr} {c : Nat} {l : List Tok} {w0 y : World} {b5 r : Nat} {o : Out} {m kb : Nat} {p ρ : Int} {e2 b : Ex} {so2 sob : Option Addr} {cap2 capb : Nat} (hp : Pa wb pb ao c l kb y) (hw : wb.heap.size ≤ pb) (hk : Kp pb w0 y) (hz : Zx w0.heap.size y) (hv : Vx b5 e2 so2 cap2 y)
  (ha : Xn (w0.heap.size + 1) b5 so2 e2.args y) (hb : Xn (w0.heap.size + 1) b5 sob b.args y) (hs2 : so2 = none → cap2 = 0) (hsb : sob = none → capb = 0) (h0 : w0.heap.size < b5) (h5 : pb < b5) (ho : lp m r (.mk p 0 [] [e2, b]) (rk p) (l.drop kb) = some o) (hρ : ρ = ((rk p : Nat) : Int) + 1) (P κ : Int) (Y : ByteArray) (b8 : Nat) (hx : Ox b8 P ρ κ Y y) (h8 : b5 ≠ b8) :
  Lo wb pb ao c l w0 b5 r o m (.int .i64 ρ) (((((y.setCell ⟨b5, 0, none⟩ (.int .i64 p)).setCell ⟨b5, 1, none⟩ (.int .i64 0)).setCell ⟨b5, 2, none⟩ (.string ⟨#[]⟩)).setCell ⟨b5, 3, none⟩ (.slice (some ⟨y.heap.size, 0, none⟩) 2 2)).alloc (.cells #[.int .i64 e2.op, .int .i64 e2.n, .string (str e2.s), .slice so2 e2.args.length cap2, .int .i64 b.op, .int .i64 b.n, .string (str b.s), .slice sob b.args.length capb] 27))
   (.mk p 0 [] [e2, b]) (rk p) kb (some ⟨y.heap.size, 0, none⟩) 2 ∧
  Ox b8 P ρ κ Y (((((y.setCell ⟨b5, 0, none⟩ (.int .i64 p)).setCell ⟨b5, 1, none⟩ (.int .i64 0)).setCell ⟨b5, 2, none⟩ (.string ⟨#[]⟩)).setCell ⟨b5, 3, none⟩ (.slice (some ⟨y.heap.size, 0, none⟩) 2 2)).alloc (.cells #[.int .i64 e2.op, .int .i64 e2.n, .string (str e2.s), .slice so2 e2.args.length cap2, .int .i64 b.op, .int .i64 b.n, .string (str b.s), .slice sob b.args.length capb] 27)) := by
 have hbl := ((((Below.refl b5 y).setCell (p := ⟨b5, 0, none⟩) (Nat.le_refl _) (.int .i64 p)).setCell (p := ⟨b5, 1, none⟩) (Nat.le_refl _) (.int .i64 0)).setCell (p := ⟨b5, 2, none⟩) (Nat.le_refl _) (.string ⟨#[]⟩)).setCell (p := ⟨b5, 3, none⟩) (Nat.le_refl _) (.slice (some ⟨y.heap.size, 0, none⟩) 2 2)
 have hzx : Zx b5 y ∨ True := Or.inr trivial
 have ha1 := (((ha.set 0 (.int .i64 p)).set 1 (.int .i64 0)).set 2 (.string ⟨#[]⟩)).set 3 (.slice (some ⟨y.heap.size, 0, none⟩) 2 2)
 have hb1 := (((hb.set 0 (.int .i64 p)).set 1 (.int .i64 0)).set 2 (.string ⟨#[]⟩)).set 3 (.slice (some ⟨y.heap.size, 0, none⟩) 2 2)
 have hx1 := (((hx.set h8 0 (.int .i64 p)).set h8 1 (.int .i64 0)).set h8 2 (.string ⟨#[]⟩)).set h8 3 (.slice (some ⟨y.heap.size, 0, none⟩) 2 2)
 have hv1 : Vx b5 (.mk p 0 [] [e2, b]) (some ⟨y.heap.size, 0, none⟩) 2 ((((y.setCell ⟨b5, 0, none⟩ (.int .i64 p)).setCell ⟨b5, 1, none⟩ (.int .i64 0)).setCell ⟨b5, 2, none⟩ (.string ⟨#[]⟩)).setCell ⟨b5, 3, none⟩ (.slice (some ⟨y.heap.size, 0, none⟩) 2 2)) := by
  obtain ⟨v0, v1, v2, v3, vf⟩ := hv
  refine ⟨?_, ?_, ?_, ?_, fun j => ?_⟩
  ·simp [go_sem, v0, v1, v2, v3]; rfl
  ·simp [go_sem, v0, v1, v2, v3]; rfl
  ·simp [go_sem, v0, v1, v2, v3]; rfl
  ·simp [go_sem, v0, v1, v2, v3]; rfl
  ·rw [World.frozen?_setCell, World.frozen?_setCell, World.frozen?_setCell, World.frozen?_setCell]; exact vf j
 have hsz : ((((y.setCell ⟨b5, 0, none⟩ (.int .i64 p)).setCell ⟨b5, 1, none⟩ (.int .i64 0)).setCell ⟨b5, 2, none⟩ (.string ⟨#[]⟩)).setCell ⟨b5, 3, none⟩ (.slice (some ⟨y.heap.size, 0, none⟩) 2 2)).heap.size = y.heap.size := by simp [World.setCell]
 have hvl := hv.lt
 generalize (((y.setCell ⟨b5, 0, none⟩ (.int .i64 p)).setCell ⟨b5, 1, none⟩ (.int .i64 0)).setCell ⟨b5, 2, none⟩ (.string ⟨#[]⟩)).setCell ⟨b5, 3, none⟩ (.slice (some ⟨y.heap.size, 0, none⟩) 2 2) = y1 at hbl ha1 hb1 hx1 hv1 hsz ⊢
 have hn := Xn.new (n := w0.heap.size + 1) (b := b5) (W := y1) [(e2, so2, cap2), (b, sob, capb)] (by
  intro x hx
  simp only [List.mem_cons, List.not_mem_nil, or_false] at hx
  rcases hx with rfl | rfl
  ·exact ⟨ha1, hs2⟩
  ·exact ⟨hb1, hsb⟩) (by omega) (by omega) 27
 rw [hsz] at hn
 have hal := bal (bref y1) (.cells (xrow [(e2, so2, cap2), (b, sob, capb)]).toArray 27)
 exact ⟨⟨ho, by rw [hρ], (hp.low hbl h5 hw).keep hal, (hk.low hbl (by omega)).trans (Kp.of_below hal), (hz.blk (hbl.block _ h0)).below hal, hv1.below hal, hn, fun h => by cases h⟩, hx1.below hal⟩
set_option maxRecDepth 100000 in
set_option maxHeartbeats 4000000 in
theorem qexpr (wb : World) (pb : Nat) (ao : Option Addr) (c : Nat) (l : List Tok) (g : Hid (Ga wb pb ao c l)) (n : Nat) (ce : Hid (CE wb pb ao c l n)) (cf : Hid (CF wb pb ao c l n)) : CE wb pb ao c l (n + 1) := by
 intro r k0 w0 o hr7 h ho0
 obtain ⟨r0, hr0⟩ : ∃ q, q = r := ⟨_, rfl⟩
 subst hr0
 have ho := ho0
 clear ho0
 rw [ex] at ho
 obtain ⟨R, hR⟩ : ∃ R : Int, (r0 : Int) + 1 = R := ⟨_, rfl⟩
 have HR := Lib.hid hR
 have HR7 := Lib.hid hr7
 have HPW := Lib.hid h.lt
 have H0 := Lib.hid (h.keep (bal (bref w0) (.cells #[.int .i64 0, .int .i64 0, .string ⟨#[]⟩, .slice none 0 0] 27)))
 have K0 := Lib.hid (Kp.of_below (pb := pb) (bal (bref w0) (.cells #[.int .i64 0, .int .i64 0, .string ⟨#[]⟩, .slice none 0 0] 27)))
 have Z0 := Lib.hid (Zx.new w0)
 clear h
 have FC := Lib.hid (fun W o h ho => cf.out r0 k0 W o hr7 h ho)
 rw [hR] at FC ⊢
 clear hR hr7
 rcases bind_cases ho with ⟨e, q, m, he, ho⟩ | ⟨m, he, rfl⟩
 rotate_left
 ·have FD := Lib.hid (fun W h => FC.out W _ h he)
  clear FC
  go_enter Tryz.func29, Tryz.ntmps29
  go_wp2_with fail
  refine (FD.out _ H0.out).mono ?_
  rintro r v ⟨k', hk', rfl, rfl, kv⟩
  exact ⟨rfl, Res.bad hk' (K0.out.trans kv)⟩
 have FD := Lib.hid (fun W h => FC.out W _ h he)
 clear FC
 go_enter Tryz.func29, Tryz.ntmps29
 go_wp2_with fail
 refine (FD.out _ H0.out).mono ?_
 rintro r u1 ⟨k1, so, cap, rfl, rfl, hp, kv, xa, hc⟩
 unfold vx
 have HO := Lib.hid ho
 have H1 := Lib.hid hp
 have K1 := Lib.hid (K0.out.trans kv)
 have Z1 := Lib.hid (Z0.out.kp kv (Nat.ne_of_gt HPW.out))
 have X1 := Lib.hid (xa.mono Z0.out.lt)
 have HC := Lib.hid hc
 clear FD hp kv xa hc he ho
 go_wp2_with fail
 obtain ⟨b5, hb5⟩ : ∃ b5, u1.heap.size = b5 := ⟨_, rfl⟩
 have HBB := Lib.hid hb5
 rw [hb5]
 clear hb5
 go_loopg [6] n (fun gk x wr => ∃ e q k so cap, gk ≤ n ∧ Lo wb pb ao c l w0 b5 r0 o gk x wr e q k so cap)
 case atStart =>
  have hb5 := HBB.out
  subst hb5
  have hbx := bx_below u1 e so cap
  exact ⟨e, q, k1, so, cap, Nat.le_refl _, HO.out, rfl, H1.out.keep hbx, K1.out.trans (Kp.of_below hbx), Z1.out.below hbx, bx_vx u1 e so cap, Xn.of_new X1.out (Nat.le_refl _) hbx, HC.out⟩
 case round =>
  obtain ⟨e2, q2, k, so2, cap2, hgn, L⟩ := hrel
  obtain ⟨ho, rfl, hp, hk, hz, hv, ha, hs⟩ := L
  have hb0 : w0.heap.size < b5 := by rw [← HBB.out]; exact Z1.out.lt
  have hpb : pb < b5 := by have := HPW.out; omega
  clear H1 K1 Z1 X1 HC HO
  have HP := Lib.hid hp
  have HK := Lib.hid hk
  have HZ := Lib.hid hz
  have HV := Lib.hid hv
  have HA := Lib.hid ha
  have HS := Lib.hid hs
  have HB0 := Lib.hid hb0
  have HB5 := Lib.hid hpb
  have HN := Lib.hid hgn
  clear hp hk hz hv ha hs hb0 hpb hgn
  cases gk with
  | zero => rw [lp] at ho; cases ho
  | succ m =>
   rw [lp] at ho
   have QI := Lib.hid (fun W h => qinfix wb pb ao c l g.out k W h)
   have hpc : infL (l.drop k) = 0 ∨ infL (l.drop k) ∈ infs := by
    rcases infL_cases (l.drop k) with h | h
    ·exact Or.inl h
    ·exact Or.inr h.1
   have hkl : infL (l.drop k) ≠ 0 → k < l.length := by
    intro h
    rcases Nat.lt_or_ge k l.length with h' | h'
    ·exact h'
    ·rw [List.drop_eq_nil_of_le h'] at h; exact absurd rfl h
   generalize infL (l.drop k) = p at ho QI hpc hkl
   obtain ⟨p0, p20, P, ρ, κ, y, hrow, ρ0, ρ9, hpz, hpi⟩ := row_inf hpc
   have T0 := fun W (hW : Below wb.heap.size wb W) => (g.out.gf.keep hW).1.1.2 p.toNat (by omega)
   rw [hrow] at T0
   have TT := Lib.hid T0
   have h0 : ¬ (p < 0) := by omega
   have h20 : p < 20 := p20
   have HR2 := HR.out
   have hR1 : 1 ≤ R := by omega
   have hstart : True := trivial
   clear T0 hrow
   by_cases hlt : ρ < R
   ·have hst : p = 0 ∨ rk p < r0 ∨ q2 < lr p := by
     rcases hpc with h | h
     ·exact Or.inl h
     ·right; left; have := (hpi h).1; omega
    rw [if_pos hst] at ho
    injection ho with ho
    have HO := Lib.hid ho
    clear ho hst hpc hkl hpi hpz HR2 hR1 p0 ρ0 ρ9 p20
    go_wp2_with fail
    refine (QI.out _ HP.out).mono ?_
    rintro r w1 ⟨rfl, hb1⟩
    have HB1 := Lib.hid hb1
    have HP1 := Lib.hid (HP.out.keep hb1)
    obtain ⟨t0, t1, t2, t3⟩ := TT.out w1 HP1.out.b
    have hbo := btr hb1 (bal (bref w1) (.cells #[.int .i64 P, .int .i64 ρ, .int .i64 κ, .string (str y)] 75))
    have HPo := Lib.hid (HP.out.keep hbo)
    have HKo := Lib.hid (HK.out.trans (Kp.of_below hbo))
    have HZo := Lib.hid (HZ.out.below hbo)
    have HVo := Lib.hid (HV.out.below hbo)
    have HAo := Lib.hid (HA.out.below hbo)
    clear hb1 hbo
    obtain ⟨v0, v1, v2, v3, vf⟩ := HVo.out
    obtain ⟨z0, z1, z2, z3, fz⟩ := HZo.out
    have bn : b5 ≠ w0.heap.size := by have := HB0.out; omega
    go_wp2_with fail
    refine bodyPost_ret (res_expr rfl _ _ _ rfl _ _ _ _ (st4_0 HZo.out _ _ _ _) (st4_1 HZo.out _ _ _ _) (st4_2 HZo.out _ _ _ _) (st4_3 HZo.out _ _ _ _)) rfl ?_
    rw [← HO.out]
    exact Res.box (e := e2) HPo.out g.out.up HKo.out HAo.out.xa HS.out HPW.out (Nat.le_refl _) _ _ _ _
   ·have hpn : p ≠ 0 := fun h => by have := hpz h; omega
    have hpi2 := hpc.resolve_left hpn
    obtain ⟨hρ, hL⟩ := hpi hpi2
    have LR0 := fun W => mleftRank P ρ κ (str y) ⟨ρ0, ρ9⟩ W
    rw [hL] at LR0
    have LR := Lib.hid LR0
    clear LR0
    by_cases hlq : ((q2 : Int) + 1) < ((lr p : Nat) : Int) + 1
    ·rw [if_pos (Or.inr (Or.inr (by omega)))] at ho
     injection ho with ho
     have HO := Lib.hid ho
     clear ho hpc hkl hpi hpz HR2 hR1 p0 ρ0 ρ9 p20 hpn hpi2 hρ hL
     go_wp2_with fail
     refine (QI.out _ HP.out).mono ?_
     rintro r w1 ⟨rfl, hb1⟩
     have HB1 := Lib.hid hb1
     have HP1 := Lib.hid (HP.out.keep hb1)
     obtain ⟨t0, t1, t2, t3⟩ := TT.out w1 HP1.out.b
     have hbo := btr hb1 (bal (bref w1) (.cells #[.int .i64 P, .int .i64 ρ, .int .i64 κ, .string (str y)] 75))
     have HPo := Lib.hid (HP.out.keep hbo)
     have HKo := Lib.hid (HK.out.trans (Kp.of_below hbo))
     have HZo := Lib.hid (HZ.out.below hbo)
     have HVo := Lib.hid (HV.out.below hbo)
     have HAo := Lib.hid (HA.out.below hbo)
     clear hb1 hbo
     go_wp2_with fail
     refine (LR.out _).mono ?_
     rintro r w2 ⟨rfl, hb2⟩
     have HPo := Lib.hid (HPo.out.keep hb2)
     have HKo := Lib.hid (HKo.out.trans (Kp.of_below hb2))
     have HZo := Lib.hid (HZo.out.below hb2)
     have HVo := Lib.hid (HVo.out.below hb2)
     have HAo := Lib.hid (HAo.out.below hb2)
     clear hb2
     obtain ⟨v0, v1, v2, v3, vf⟩ := HVo.out
     obtain ⟨z0, z1, z2, z3, fz⟩ := HZo.out
     have bn : b5 ≠ w0.heap.size := by have := HB0.out; omega
     go_wp2_with fail
     refine bodyPost_ret (res_expr rfl _ _ _ rfl _ _ _ _ (st4_0 HZo.out _ _ _ _) (st4_1 HZo.out _ _ _ _) (st4_2 HZo.out _ _ _ _) (st4_3 HZo.out _ _ _ _)) rfl ?_
     rw [← HO.out]
     exact Res.box (e := e2) HPo.out g.out.up HKo.out HAo.out.xa HS.out HPW.out (Nat.le_refl _) _ _ _ _
    ·have hst : ¬ (p = 0 ∨ rk p < r0 ∨ q2 < lr p) := by
      rintro (h | h | h)
      ·exact hpn h
      ·omega
      ·omega
     rw [if_neg hst, tl] at ho
     have HLT := Lib.hid (hkl hpn)
     have HIN := Lib.hid hpi2
     have hw := wrap_at k (by have := HLT.out; have := g.out.len; omega)
     have RR0 := fun W => mrightRank P ρ κ (str y) ⟨ρ0, ρ9⟩ W
     have HRP : Hid (ρ = ((rk p : Nat) : Int) + 1) := Lib.hid hρ
     have RR := Lib.hid RR0
     have HRK : Hid (rk p ≤ 6) := Lib.hid (inf_ranks hpi2).2.1
     clear RR0 hst hpc hkl hpi hpz HR2 hR1 p0 ρ0 ρ9 p20 hpn hpi2 hρ hL
     go_wp2_with fail
     refine (QI.out _ HP.out).mono ?_
     rintro r w1 ⟨rfl, hb1⟩
     have HB1 := Lib.hid hb1
     have HP1 := Lib.hid (HP.out.keep hb1)
     obtain ⟨t0, t1, t2, t3⟩ := TT.out w1 HP1.out.b
     have hbo := btr hb1 (bal (bref w1) (.cells #[.int .i64 P, .int .i64 ρ, .int .i64 κ, .string (str y)] 75))
     have HPo := Lib.hid (HP.out.keep hbo)
     have HKo := Lib.hid (HK.out.trans (Kp.of_below hbo))
     have HZo := Lib.hid (HZ.out.below hbo)
     have HVo := Lib.hid (HV.out.below hbo)
     have HAo := Lib.hid (HA.out.below hbo)
     clear hb1 hbo
     go_wp2_with fail
     refine (LR.out _).mono ?_
     rintro r w2 ⟨rfl, hb2⟩
     have HPo := Lib.hid (HPo.out.keep hb2)
     have HKo := Lib.hid (HKo.out.trans (Kp.of_below hb2))
     have HZo := Lib.hid (HZo.out.below hb2)
     have HVo := Lib.hid (HVo.out.below hb2)
     have HAo := Lib.hid (HAo.out.below hb2)
     have HXo : Hid (Ox w1.heap.size P ρ κ (str y) w2) := Lib.hid (Ox.below (W := w1.alloc (.cells #[.int .i64 P, .int .i64 ρ, .int .i64 κ, .string (str y)] 75)) ⟨by simp [go_sem], by simp [go_sem], by simp [go_sem], by simp [go_sem]⟩ hb2)
     clear hb2
     have c1 := HPo.out.c1
     have fr := HPo.out.fr
     go_wp2_with fail
     have hpo := HP1.out.lt
     have hb5 : b5 < w1.heap.size := by have := HV.out.lt; have := HB1.out.size; omega
     have h3 : Pa wb pb ao c l (k + 1) (w2.setCell ⟨pb, 1, none⟩ (.int .i64 ((k : Int) + 1))) := HPo.out.step g.out.up HLT.out
     have k3 := HKo.out.trans (Kp.set pb w2 1 (.int .i64 ((k : Int) + 1)))
     have z3 := HZo.out.kp (Kp.set pb w2 1 (.int .i64 ((k : Int) + 1))) (Nat.ne_of_gt HPW.out)
     have v3 := HVo.out.kp (Kp.set pb w2 1 (.int .i64 ((k : Int) + 1))) HB5.out
     have x3 := HAo.out.kp (Kp.set pb w2 1 (.int .i64 ((k : Int) + 1))) (Nat.lt_succ_of_lt HPW.out)
     have o3 := HXo.out.kp (Kp.set pb w2 1 (.int .i64 ((k : Int) + 1))) hpo
     have hs3 : w1.heap.size < (w2.setCell ⟨pb, 1, none⟩ (.int .i64 ((k : Int) + 1))).heap.size := o3.lt
     clear c1 fr hw LR
     generalize w2.setCell ⟨pb, 1, none⟩ (.int .i64 ((k : Int) + 1)) = w3 at h3 k3 z3 v3 x3 o3 hs3 ⊢
     generalize w1.heap.size = b8 at hb5 hpo o3 hs3 ⊢
     refine wp_region_held_drew (S := Ox b8 P ρ κ (str y)) (by kernel_rfl) (o3.below (bdr (bref _))) (fun hH0 => ?_)
     have Hp0 := Lib.hid (h3.keep (bdr (bref w3)))
     have Kq0 := Lib.hid (k3.trans (Kp.of_below (bdr (bref w3))))
     have Zq0 := Lib.hid (z3.below (bdr (bref w3)))
     have Vq0 := Lib.hid (v3.below (bdr (bref w3)))
     have Xq0 := Lib.hid (x3.below (bdr (bref w3)))
     have HB8 := Lib.hid hb5
     have HPO := Lib.hid hpo
     clear h3 k3 z3 v3 x3 o3 hs3 hb5 hpo HPo HKo HZo HVo HAo HXo HP1 HB1 HP HK HZ HV
     refine wpAnyH_take (i := 0) (oi := _) (v := ?_) rfl (by kernel_rfl) (by kernel_rfl) (by kernel_rfl) (fun _ _ _ h => h) (Or.inl ⟨?_, ?_⟩) hH0 ?_
     rotate_left
     ·kernel_rfl
     ·(intro W' hSw; obtain ⟨s0, s1, s2, s3⟩ := hSw; go_simp; (try with_reducible rfl))
     (try simp only [List.getElem_toArray])
     (try simp only [List.getElem_cons_succ])
     (try simp only [List.getElem_cons_zero])
     (try simp only [Act.put])
     (try simp only [List.setIfInBounds_toArray])
     (try simp only [List.set_cons_succ])
     (try simp only [List.set_cons_zero])
     refine wpAnyH_take (i := 2) (oi := _) (v := ?_) rfl (by kernel_rfl) (by kernel_rfl) (by kernel_rfl) (fun _ _ _ h => h) (Or.inl ⟨?_, ?_⟩) hH0 ?_
     rotate_left
     ·kernel_rfl
     ·(intro W' hSw; obtain ⟨s0, s1, s2, s3⟩ := hSw; go_simp; (try with_reducible rfl))
     (try simp only [List.getElem_toArray])
     (try simp only [List.getElem_cons_succ])
     (try simp only [List.getElem_cons_zero])
     (try simp only [Act.put])
     (try simp only [List.setIfInBounds_toArray])
     (try simp only [List.set_cons_succ])
     (try simp only [List.set_cons_zero])
     refine wpAnyH_take (i := 3) (oi := _) (v := ?_) rfl (by kernel_rfl) (by kernel_rfl) (by kernel_rfl) (fun _ _ _ h => h) (Or.inl ⟨?_, ?_⟩) hH0 ?_
     rotate_left
     ·kernel_rfl
     ·(intro W' hSw; obtain ⟨s0, s1, s2, s3⟩ := hSw; go_simp; (try with_reducible rfl))
     (try simp only [List.getElem_toArray])
     (try simp only [List.getElem_cons_succ])
     (try simp only [List.getElem_cons_zero])
     (try simp only [Act.put])
     (try simp only [List.setIfInBounds_toArray])
     (try simp only [List.set_cons_succ])
     (try simp only [List.set_cons_zero])
     obtain ⟨o1, ho1⟩ : ∃ o1, ex m (rk p + 1) (l.drop (k + 1)) = o1 := ⟨_, rfl⟩
     rw [ho1] at ho
     cases o1 with
     | none => cases ho
     | some o1 =>
      have EX : Hid (∀ W, Pa wb pb ao c l (k + 1) W → Calls Tryz.prog 29 #[.pointer (some ⟨pb, 0, none⟩), .int .i64 (ρ + 1)] W fun e w' => Res wb pb ao c l W o1 e w') := Lib.hid (fun W h => by
       have h9 := ce.out (rk p + 1) (k + 1) W o1 (by have := HRK.out; omega) h (ex_le (by have := HN.out; omega) ho1)
       rw [show (((rk p + 1 : Nat) : Int) + 1) = ρ + 1 by rw [HRP.out]; omega] at h9
       exact h9)
      clear ho1
      cases o1 with
      | bad mb =>
       have ho : some (Out.bad mb) = some o := ho
       injection ho with ho
       subst ho
       refine wpAnyH_ready (rs := [1, 4]) (by kernel_rfl) (by simp) ?_
       refine AllReadyH.cons (o := _) rfl (fun K hK => ?_) (AllReadyH.cons (o := _) rfl (fun K hK => ?_) AllReadyH.nil)
       ·obtain ⟨v0, v1, v2, v3, vf⟩ := Vq0.out
        go_simp
        refine hK.out _ _ hH0 (fun hH1 => ?_)
        clear hK K v0 v1 v2 v3 vf
        have Hp1 := Lib.hid (Hp0.out)
        have Kq1 := Lib.hid (Kq0.out)
        have Zq1 := Lib.hid (Zq0.out)
        have Vq1 := Lib.hid (Vq0.out)
        have Xq1 := Lib.hid (Xq0.out)
        (try simp only [List.getElem_toArray])
        (try simp only [List.getElem_cons_succ])
        (try simp only [List.getElem_cons_zero])
        (try simp only [Act.put])
        (try simp only [List.setIfInBounds_toArray])
        (try simp only [List.set_cons_succ])
        (try simp only [List.set_cons_zero])
        refine wpAnyH_ready (rs := [4]) (by kernel_rfl) (by simp) ?_
        refine AllReadyH.cons (o := _) rfl (fun K hK => ?_) AllReadyH.nil
        go_simp
        refine (RR.out _).mono ?_
        rintro r y2 ⟨rfl, hbv⟩
        refine hK.out _ _ (hH1.below hbv) (fun hH2 => ?_)
        clear hK K
        have Hp2 := Lib.hid (Hp1.out.keep hbv)
        have Kq2 := Lib.hid (Kq1.out.trans (Kp.of_below hbv))
        have Zq2 := Lib.hid (Zq1.out.below hbv)
        have Vq2 := Lib.hid (Vq1.out.below hbv)
        have Xq2 := Lib.hid (Xq1.out.below hbv)
        clear hbv
        (try simp only [List.getElem_toArray])
        (try simp only [List.getElem_cons_succ])
        (try simp only [List.getElem_cons_zero])
        (try simp only [Act.put])
        (try simp only [List.setIfInBounds_toArray])
        (try simp only [List.set_cons_succ])
        (try simp only [List.set_cons_zero])
        refine wpAnyH_ready (rs := [5]) (by kernel_rfl) (by simp) ?_
        refine AllReadyH.cons (o := _) rfl (fun K hK => ?_) AllReadyH.nil
        go_simp
        refine (EX.out _ Hp2.out).mono ?_
        rintro r y3 hr
        obtain ⟨kb, hkb, rfl, rfl, kv⟩ := hr
        exact ⟨rfl, Res.bad hkb (Kq2.out.trans kv)⟩
       ·go_simp
        refine (RR.out _).mono ?_
        rintro r y1 ⟨rfl, hbv⟩
        refine hK.out _ _ (hH0.below hbv) (fun hH1 => ?_)
        clear hK K
        have Hp1 := Lib.hid (Hp0.out.keep hbv)
        have Kq1 := Lib.hid (Kq0.out.trans (Kp.of_below hbv))
        have Zq1 := Lib.hid (Zq0.out.below hbv)
        have Vq1 := Lib.hid (Vq0.out.below hbv)
        have Xq1 := Lib.hid (Xq0.out.below hbv)
        clear hbv
        (try simp only [List.getElem_toArray])
        (try simp only [List.getElem_cons_succ])
        (try simp only [List.getElem_cons_zero])
        (try simp only [Act.put])
        (try simp only [List.setIfInBounds_toArray])
        (try simp only [List.set_cons_succ])
        (try simp only [List.set_cons_zero])
        refine wpAnyH_ready (rs := [1, 5]) (by kernel_rfl) (by simp) ?_
        refine AllReadyH.cons (o := _) rfl (fun K hK => ?_) (AllReadyH.cons (o := _) rfl (fun K hK => ?_) AllReadyH.nil)
        ·obtain ⟨v0, v1, v2, v3, vf⟩ := Vq1.out
         go_simp
         refine hK.out _ _ hH1 (fun hH2 => ?_)
         clear hK K v0 v1 v2 v3 vf
         have Hp2 := Lib.hid (Hp1.out)
         have Kq2 := Lib.hid (Kq1.out)
         have Zq2 := Lib.hid (Zq1.out)
         have Vq2 := Lib.hid (Vq1.out)
         have Xq2 := Lib.hid (Xq1.out)
         (try simp only [List.getElem_toArray])
         (try simp only [List.getElem_cons_succ])
         (try simp only [List.getElem_cons_zero])
         (try simp only [Act.put])
         (try simp only [List.setIfInBounds_toArray])
         (try simp only [List.set_cons_succ])
         (try simp only [List.set_cons_zero])
         refine wpAnyH_ready (rs := [5]) (by kernel_rfl) (by simp) ?_
         refine AllReadyH.cons (o := _) rfl (fun K hK => ?_) AllReadyH.nil
         go_simp
         refine (EX.out _ Hp2.out).mono ?_
         rintro r y3 hr
         obtain ⟨kb, hkb, rfl, rfl, kv⟩ := hr
         exact ⟨rfl, Res.bad hkb (Kq2.out.trans kv)⟩
        ·go_simp
         refine (EX.out _ Hp1.out).mono ?_
         rintro r y2 hr
         obtain ⟨kb, hkb, rfl, rfl, kv⟩ := hr
         exact ⟨rfl, Res.bad hkb (Kq1.out.trans kv)⟩
      | ok b qb mb =>
       have ho : lp m r0 (.mk p 0 [] [e2, b]) (rk p) mb = some o := ho
       refine wpAnyH_ready (rs := [1, 4]) (by kernel_rfl) (by simp) ?_
       refine AllReadyH.cons (o := _) rfl (fun K hK => ?_) (AllReadyH.cons (o := _) rfl (fun K hK => ?_) AllReadyH.nil)
       ·obtain ⟨v0, v1, v2, v3, vf⟩ := Vq0.out
        go_simp
        refine hK.out _ _ hH0 (fun hH1 => ?_)
        clear hK K v0 v1 v2 v3 vf
        have Hp1 := Lib.hid (Hp0.out)
        have Kq1 := Lib.hid (Kq0.out)
        have Zq1 := Lib.hid (Zq0.out)
        have Vq1 := Lib.hid (Vq0.out)
        have Xq1 := Lib.hid (Xq0.out)
        (try simp only [List.getElem_toArray])
        (try simp only [List.getElem_cons_succ])
        (try simp only [List.getElem_cons_zero])
        (try simp only [Act.put])
        (try simp only [List.setIfInBounds_toArray])
        (try simp only [List.set_cons_succ])
        (try simp only [List.set_cons_zero])
        refine wpAnyH_ready (rs := [4]) (by kernel_rfl) (by simp) ?_
        refine AllReadyH.cons (o := _) rfl (fun K hK => ?_) AllReadyH.nil
        go_simp
        refine (RR.out _).mono ?_
        rintro r y2 ⟨rfl, hbv⟩
        refine hK.out _ _ (hH1.below hbv) (fun hH2 => ?_)
        clear hK K
        have Hp2 := Lib.hid (Hp1.out.keep hbv)
        have Kq2 := Lib.hid (Kq1.out.trans (Kp.of_below hbv))
        have Zq2 := Lib.hid (Zq1.out.below hbv)
        have Vq2 := Lib.hid (Vq1.out.below hbv)
        have Xq2 := Lib.hid (Xq1.out.below hbv)
        clear hbv
        (try simp only [List.getElem_toArray])
        (try simp only [List.getElem_cons_succ])
        (try simp only [List.getElem_cons_zero])
        (try simp only [Act.put])
        (try simp only [List.setIfInBounds_toArray])
        (try simp only [List.set_cons_succ])
        (try simp only [List.set_cons_zero])
        refine wpAnyH_ready (rs := [5]) (by kernel_rfl) (by simp) ?_
        refine AllReadyH.cons (o := _) rfl (fun K hK => ?_) AllReadyH.nil
        go_simp
        refine (EX.out _ Hp2.out).mono ?_
        rintro r y3 hr
        obtain ⟨kb, sob, capb, rfl, rfl, hp, kv, xa, hcb⟩ := hr
        refine hK.out _ _ (hH2.kp kv HPO.out) (fun hH3 => ?_)
        clear hK K
        have Hp3 := Lib.hid hp
        have Kq3 := Lib.hid (Kq2.out.trans kv)
        have Zq3 := Lib.hid (Zq2.out.kp kv (Nat.ne_of_gt HPW.out))
        have Vq3 := Lib.hid (Vq2.out.kp kv HB5.out)
        have Xq3 := Lib.hid (Xq2.out.kp kv (Nat.lt_succ_of_lt HPW.out))
        have XB3 := Lib.hid (Xn.of_up (n := w0.heap.size + 1) (b := b5) xa Vq2.out.lt Zq2.out.lt)
        have HCB := Lib.hid hcb
        clear hp kv xa hcb
        unfold vx
        (try simp only [List.getElem_toArray])
        (try simp only [List.getElem_cons_succ])
        (try simp only [List.getElem_cons_zero])
        (try simp only [Act.put])
        (try simp only [List.setIfInBounds_toArray])
        (try simp only [List.set_cons_succ])
        (try simp only [List.set_cons_zero])
        refine wpAnyH_ready (rs := [6]) (by kernel_rfl) (by simp) ?_
        refine AllReadyH.cons (o := _) rfl (fun K hK => ?_) AllReadyH.nil
        go_simp
        refine hK.out _ _ (hH3.below (bal (bref _) _)) (fun hH4 => ?_)
        clear hK K
        (try simp only [List.getElem_toArray])
        (try simp only [List.getElem_cons_succ])
        (try simp only [List.getElem_cons_zero])
        (try simp only [Act.put])
        (try simp only [List.setIfInBounds_toArray])
        (try simp only [List.set_cons_succ])
        (try simp only [List.set_cons_zero])
        refine wpAnyH_take (i := 7) (oi := _) (v := ?_) rfl (by kernel_rfl) (by kernel_rfl) (by kernel_rfl) (fun _ _ _ h => h) (Or.inl ⟨?_, ?_⟩) hH4 ?_
        rotate_left
        ·kernel_rfl
        ·(intro W' hSw; obtain ⟨s0, s1, s2, s3⟩ := hSw; go_simp; (try with_reducible rfl))
        (try simp only [List.getElem_toArray])
        (try simp only [List.getElem_cons_succ])
        (try simp only [List.getElem_cons_zero])
        (try simp only [Act.put])
        (try simp only [List.setIfInBounds_toArray])
        (try simp only [List.set_cons_succ])
        (try simp only [List.set_cons_zero])
        refine wpAnyH_ready (rs := [8]) (by kernel_rfl) (by simp) ?_
        refine AllReadyH.cons (o := _) rfl (fun K hK => ?_) AllReadyH.nil
        have hal := bal (bref y3) (.cells #[.int .i64 e2.op, .int .i64 e2.n, .string (str e2.s), .slice so2 e2.args.length cap2, .int .i64 b.op, .int .i64 b.n, .string (str b.s), .slice sob b.args.length capb] 27)
        obtain ⟨v0, v1, v2, v3, vf⟩ := Vq3.out
        have vl := Vq3.out.lt
        have vn : b5 ≠ y3.heap.size := by omega
        have hLo := Lo.next (m := m) (r := r0) (o := o) (p := p) Hp3.out g.out.up Kq3.out Zq3.out Vq3.out Xq3.out XB3.out HS.out HCB.out HB0.out HB5.out ho HRP.out P κ (str y) b8 hH3 (Nat.ne_of_lt HB8.out)
        go_simp
        refine hK.out _ _ hLo.2 (fun hH5 => ?_)
        clear hK K hH5 v0 v1 v2 v3 vf vl vn hal
        generalize ((((y3.setCell ⟨b5, 0, none⟩ (.int .i64 p)).setCell ⟨b5, 1, none⟩ (.int .i64 0)).setCell ⟨b5, 2, none⟩ (.string ⟨#[]⟩)).setCell ⟨b5, 3, none⟩ (.slice (some ⟨y3.heap.size, 0, none⟩) 2 2)).alloc (.cells #[.int .i64 e2.op, .int .i64 e2.n, .string (str e2.s), .slice so2 e2.args.length cap2, .int .i64 b.op, .int .i64 b.n, .string (str b.s), .slice sob b.args.length capb] 27) = y9 at hLo ⊢
        obtain ⟨hL9, hO9⟩ := hLo
        have HL9 := Lib.hid hL9
        obtain ⟨x0, x1, x2, x3⟩ := hO9
        clear hL9
        (try simp only [List.getElem_toArray])
        (try simp only [List.getElem_cons_succ])
        (try simp only [List.getElem_cons_zero])
        (try simp only [Act.put])
        (try simp only [List.setIfInBounds_toArray])
        (try simp only [List.set_cons_succ])
        (try simp only [List.set_cons_zero])
        refine wpAnyH_done (by kernel_rfl) ?_ _
        go_wp2_with fail
        go_roundg m
        case rel => exact ⟨_, _, _, _, _, by have := HN.out; omega, HL9.out⟩
        case measure => exact Nat.lt_succ_self _
       ·go_simp
        refine (RR.out _).mono ?_
        rintro r y1 ⟨rfl, hbv⟩
        refine hK.out _ _ (hH0.below hbv) (fun hH1 => ?_)
        clear hK K
        have Hp1 := Lib.hid (Hp0.out.keep hbv)
        have Kq1 := Lib.hid (Kq0.out.trans (Kp.of_below hbv))
        have Zq1 := Lib.hid (Zq0.out.below hbv)
        have Vq1 := Lib.hid (Vq0.out.below hbv)
        have Xq1 := Lib.hid (Xq0.out.below hbv)
        clear hbv
        (try simp only [List.getElem_toArray])
        (try simp only [List.getElem_cons_succ])
        (try simp only [List.getElem_cons_zero])
        (try simp only [Act.put])
        (try simp only [List.setIfInBounds_toArray])
        (try simp only [List.set_cons_succ])
        (try simp only [List.set_cons_zero])
        refine wpAnyH_ready (rs := [1, 5]) (by kernel_rfl) (by simp) ?_
        refine AllReadyH.cons (o := _) rfl (fun K hK => ?_) (AllReadyH.cons (o := _) rfl (fun K hK => ?_) AllReadyH.nil)
        ·obtain ⟨v0, v1, v2, v3, vf⟩ := Vq1.out
         go_simp
         refine hK.out _ _ hH1 (fun hH2 => ?_)
         clear hK K v0 v1 v2 v3 vf
         have Hp2 := Lib.hid (Hp1.out)
         have Kq2 := Lib.hid (Kq1.out)
         have Zq2 := Lib.hid (Zq1.out)
         have Vq2 := Lib.hid (Vq1.out)
         have Xq2 := Lib.hid (Xq1.out)
         (try simp only [List.getElem_toArray])
         (try simp only [List.getElem_cons_succ])
         (try simp only [List.getElem_cons_zero])
         (try simp only [Act.put])
         (try simp only [List.setIfInBounds_toArray])
         (try simp only [List.set_cons_succ])
         (try simp only [List.set_cons_zero])
         refine wpAnyH_ready (rs := [5]) (by kernel_rfl) (by simp) ?_
         refine AllReadyH.cons (o := _) rfl (fun K hK => ?_) AllReadyH.nil
         go_simp
         refine (EX.out _ Hp2.out).mono ?_
         rintro r y3 hr
         obtain ⟨kb, sob, capb, rfl, rfl, hp, kv, xa, hcb⟩ := hr
         refine hK.out _ _ (hH2.kp kv HPO.out) (fun hH3 => ?_)
         clear hK K
         have Hp3 := Lib.hid hp
         have Kq3 := Lib.hid (Kq2.out.trans kv)
         have Zq3 := Lib.hid (Zq2.out.kp kv (Nat.ne_of_gt HPW.out))
         have Vq3 := Lib.hid (Vq2.out.kp kv HB5.out)
         have Xq3 := Lib.hid (Xq2.out.kp kv (Nat.lt_succ_of_lt HPW.out))
         have XB3 := Lib.hid (Xn.of_up (n := w0.heap.size + 1) (b := b5) xa Vq2.out.lt Zq2.out.lt)
         have HCB := Lib.hid hcb
         clear hp kv xa hcb
         unfold vx
         (try simp only [List.getElem_toArray])
         (try simp only [List.getElem_cons_succ])
         (try simp only [List.getElem_cons_zero])
         (try simp only [Act.put])
         (try simp only [List.setIfInBounds_toArray])
         (try simp only [List.set_cons_succ])
         (try simp only [List.set_cons_zero])
         refine wpAnyH_ready (rs := [6]) (by kernel_rfl) (by simp) ?_
         refine AllReadyH.cons (o := _) rfl (fun K hK => ?_) AllReadyH.nil
         go_simp
         refine hK.out _ _ (hH3.below (bal (bref _) _)) (fun hH4 => ?_)
         clear hK K
         (try simp only [List.getElem_toArray])
         (try simp only [List.getElem_cons_succ])
         (try simp only [List.getElem_cons_zero])
         (try simp only [Act.put])
         (try simp only [List.setIfInBounds_toArray])
         (try simp only [List.set_cons_succ])
         (try simp only [List.set_cons_zero])
         refine wpAnyH_take (i := 7) (oi := _) (v := ?_) rfl (by kernel_rfl) (by kernel_rfl) (by kernel_rfl) (fun _ _ _ h => h) (Or.inl ⟨?_, ?_⟩) hH4 ?_
         rotate_left
         ·kernel_rfl
         ·(intro W' hSw; obtain ⟨s0, s1, s2, s3⟩ := hSw; go_simp; (try with_reducible rfl))
         (try simp only [List.getElem_toArray])
         (try simp only [List.getElem_cons_succ])
         (try simp only [List.getElem_cons_zero])
         (try simp only [Act.put])
         (try simp only [List.setIfInBounds_toArray])
         (try simp only [List.set_cons_succ])
         (try simp only [List.set_cons_zero])
         refine wpAnyH_ready (rs := [8]) (by kernel_rfl) (by simp) ?_
         refine AllReadyH.cons (o := _) rfl (fun K hK => ?_) AllReadyH.nil
         have hal := bal (bref y3) (.cells #[.int .i64 e2.op, .int .i64 e2.n, .string (str e2.s), .slice so2 e2.args.length cap2, .int .i64 b.op, .int .i64 b.n, .string (str b.s), .slice sob b.args.length capb] 27)
         obtain ⟨v0, v1, v2, v3, vf⟩ := Vq3.out
         have vl := Vq3.out.lt
         have vn : b5 ≠ y3.heap.size := by omega
         have hLo := Lo.next (m := m) (r := r0) (o := o) (p := p) Hp3.out g.out.up Kq3.out Zq3.out Vq3.out Xq3.out XB3.out HS.out HCB.out HB0.out HB5.out ho HRP.out P κ (str y) b8 hH3 (Nat.ne_of_lt HB8.out)
         go_simp
         refine hK.out _ _ hLo.2 (fun hH5 => ?_)
         clear hK K hH5 v0 v1 v2 v3 vf vl vn hal
         generalize ((((y3.setCell ⟨b5, 0, none⟩ (.int .i64 p)).setCell ⟨b5, 1, none⟩ (.int .i64 0)).setCell ⟨b5, 2, none⟩ (.string ⟨#[]⟩)).setCell ⟨b5, 3, none⟩ (.slice (some ⟨y3.heap.size, 0, none⟩) 2 2)).alloc (.cells #[.int .i64 e2.op, .int .i64 e2.n, .string (str e2.s), .slice so2 e2.args.length cap2, .int .i64 b.op, .int .i64 b.n, .string (str b.s), .slice sob b.args.length capb] 27) = y9 at hLo ⊢
         obtain ⟨hL9, hO9⟩ := hLo
         have HL9 := Lib.hid hL9
         obtain ⟨x0, x1, x2, x3⟩ := hO9
         clear hL9
         (try simp only [List.getElem_toArray])
         (try simp only [List.getElem_cons_succ])
         (try simp only [List.getElem_cons_zero])
         (try simp only [Act.put])
         (try simp only [List.setIfInBounds_toArray])
         (try simp only [List.set_cons_succ])
         (try simp only [List.set_cons_zero])
         refine wpAnyH_done (by kernel_rfl) ?_ _
         go_wp2_with fail
         go_roundg m
         case rel => exact ⟨_, _, _, _, _, by have := HN.out; omega, HL9.out⟩
         case measure => exact Nat.lt_succ_self _
        ·go_simp
         refine (EX.out _ Hp1.out).mono ?_
         rintro r y2 hr
         obtain ⟨kb, sob, capb, rfl, rfl, hp, kv, xa, hcb⟩ := hr
         refine hK.out _ _ (hH1.kp kv HPO.out) (fun hH2 => ?_)
         clear hK K
         have Hp2 := Lib.hid hp
         have Kq2 := Lib.hid (Kq1.out.trans kv)
         have Zq2 := Lib.hid (Zq1.out.kp kv (Nat.ne_of_gt HPW.out))
         have Vq2 := Lib.hid (Vq1.out.kp kv HB5.out)
         have Xq2 := Lib.hid (Xq1.out.kp kv (Nat.lt_succ_of_lt HPW.out))
         have XB2 := Lib.hid (Xn.of_up (n := w0.heap.size + 1) (b := b5) xa Vq1.out.lt Zq1.out.lt)
         have HCB := Lib.hid hcb
         clear hp kv xa hcb
         unfold vx
         (try simp only [List.getElem_toArray])
         (try simp only [List.getElem_cons_succ])
         (try simp only [List.getElem_cons_zero])
         (try simp only [Act.put])
         (try simp only [List.setIfInBounds_toArray])
         (try simp only [List.set_cons_succ])
         (try simp only [List.set_cons_zero])
         refine wpAnyH_ready (rs := [1]) (by kernel_rfl) (by simp) ?_
         refine AllReadyH.cons (o := _) rfl (fun K hK => ?_) AllReadyH.nil
         obtain ⟨v0, v1, v2, v3, vf⟩ := Vq2.out
         go_simp
         refine hK.out _ _ hH2 (fun hH3 => ?_)
         clear hK K v0 v1 v2 v3 vf
         have Hp3 := Lib.hid (Hp2.out)
         have Kq3 := Lib.hid (Kq2.out)
         have Zq3 := Lib.hid (Zq2.out)
         have Vq3 := Lib.hid (Vq2.out)
         have Xq3 := Lib.hid (Xq2.out)
         (try simp only [List.getElem_toArray])
         (try simp only [List.getElem_cons_succ])
         (try simp only [List.getElem_cons_zero])
         (try simp only [Act.put])
         (try simp only [List.setIfInBounds_toArray])
         (try simp only [List.set_cons_succ])
         (try simp only [List.set_cons_zero])
         have XB3 := XB2
         refine wpAnyH_ready (rs := [6]) (by kernel_rfl) (by simp) ?_
         refine AllReadyH.cons (o := _) rfl (fun K hK => ?_) AllReadyH.nil
         go_simp
         refine hK.out _ _ (hH3.below (bal (bref _) _)) (fun hH4 => ?_)
         clear hK K
         (try simp only [List.getElem_toArray])
         (try simp only [List.getElem_cons_succ])
         (try simp only [List.getElem_cons_zero])
         (try simp only [Act.put])
         (try simp only [List.setIfInBounds_toArray])
         (try simp only [List.set_cons_succ])
         (try simp only [List.set_cons_zero])
         refine wpAnyH_take (i := 7) (oi := _) (v := ?_) rfl (by kernel_rfl) (by kernel_rfl) (by kernel_rfl) (fun _ _ _ h => h) (Or.inl ⟨?_, ?_⟩) hH4 ?_
         rotate_left
         ·kernel_rfl
         ·(intro W' hSw; obtain ⟨s0, s1, s2, s3⟩ := hSw; go_simp; (try with_reducible rfl))
         (try simp only [List.getElem_toArray])
         (try simp only [List.getElem_cons_succ])
         (try simp only [List.getElem_cons_zero])
         (try simp only [Act.put])
         (try simp only [List.setIfInBounds_toArray])
         (try simp only [List.set_cons_succ])
         (try simp only [List.set_cons_zero])
         refine wpAnyH_ready (rs := [8]) (by kernel_rfl) (by simp) ?_
         refine AllReadyH.cons (o := _) rfl (fun K hK => ?_) AllReadyH.nil
         have hal := bal (bref y2) (.cells #[.int .i64 e2.op, .int .i64 e2.n, .string (str e2.s), .slice so2 e2.args.length cap2, .int .i64 b.op, .int .i64 b.n, .string (str b.s), .slice sob b.args.length capb] 27)
         obtain ⟨v0, v1, v2, v3, vf⟩ := Vq3.out
         have vl := Vq3.out.lt
         have vn : b5 ≠ y2.heap.size := by omega
         have hLo := Lo.next (m := m) (r := r0) (o := o) (p := p) Hp3.out g.out.up Kq3.out Zq3.out Vq3.out Xq3.out XB3.out HS.out HCB.out HB0.out HB5.out ho HRP.out P κ (str y) b8 hH3 (Nat.ne_of_lt HB8.out)
         go_simp
         refine hK.out _ _ hLo.2 (fun hH5 => ?_)
         clear hK K hH5 v0 v1 v2 v3 vf vl vn hal
         generalize ((((y2.setCell ⟨b5, 0, none⟩ (.int .i64 p)).setCell ⟨b5, 1, none⟩ (.int .i64 0)).setCell ⟨b5, 2, none⟩ (.string ⟨#[]⟩)).setCell ⟨b5, 3, none⟩ (.slice (some ⟨y2.heap.size, 0, none⟩) 2 2)).alloc (.cells #[.int .i64 e2.op, .int .i64 e2.n, .string (str e2.s), .slice so2 e2.args.length cap2, .int .i64 b.op, .int .i64 b.n, .string (str b.s), .slice sob b.args.length capb] 27) = y9 at hLo ⊢
         obtain ⟨hL9, hO9⟩ := hLo
         have HL9 := Lib.hid hL9
         obtain ⟨x0, x1, x2, x3⟩ := hO9
         clear hL9
         (try simp only [List.getElem_toArray])
         (try simp only [List.getElem_cons_succ])
         (try simp only [List.getElem_cons_zero])
         (try simp only [Act.put])
         (try simp only [List.setIfInBounds_toArray])
         (try simp only [List.set_cons_succ])
         (try simp only [List.set_cons_zero])
         refine wpAnyH_done (by kernel_rfl) ?_ _
         go_wp2_with fail
         go_roundg m
         case rel => exact ⟨_, _, _, _, _, by have := HN.out; omega, HL9.out⟩
         case measure => exact Nat.lt_succ_self _
end Go.Proofs.YtplkphihmfhciaaGreatDoor
