/-
  Merged: The parser: what a reading gives, in memory; rate, single. The parser: infix. The parser: what lies between; pair.
-/
import Derived.Test.YtplkphihmfhciaaGreatDoorGC
/- The parser: what a reading gives, in memory; rate, single. -/
namespace Go.Proofs.YtplkphihmfhciaaGreatDoor
open Go Go.RowKit Go.Lib Go.Shelf WM TM EM

def Xa (n : Nat) (so : Option Addr) (l : List Ex) (W : World) : Prop := ∀ W' : World, W.heap.size ≤ W'.heap.size → (∀ q, n ≤ q → q < W.heap.size → W'.heap[q]? = W.heap[q]?) → ExprsAt so l W'
theorem Xa.ex {n : Nat} {so : Option Addr} {l : List Ex} {W : World} (h : Xa n so l W) : ExprsAt so l W := h W (Nat.le_refl _) (fun _ _ _ => rfl)
theorem Xa.nil (n : Nat) (so : Option Addr) (W : World) : Xa n so [] W := fun _ _ _ => ExprsAt.nil _ _
theorem Xa.mv {n : Nat} {so : Option Addr} {l : List Ex} {W W' : World} (h : Xa n so l W) (hs : W.heap.size ≤ W'.heap.size) (hk : ∀ q, n ≤ q → q < W.heap.size → W'.heap[q]? = W.heap[q]?) : Xa n so l W' :=
 fun W'' hs' hk' => h W'' (Nat.le_trans hs hs') (fun q hq hl => (hk' q hq (Nat.lt_of_lt_of_le hl hs)).trans (hk q hq hl))
theorem Xa.mono {n m : Nat} {so : Option Addr} {l : List Ex} {W : World} (h : Xa n so l W) (hm : m ≤ n) : Xa m so l W :=
 fun W' hs hk => h W' hs (fun q hq hl => hk q (Nat.le_trans hm hq) hl)
theorem Xa.kp {n pb : Nat} {so : Option Addr} {l : List Ex} {W W' : World} (h : Xa n so l W) (k : Kp pb W W') (hp : pb < n) : Xa n so l W' :=
 h.mv k.size (fun q hq hl => k.keeps q hl (by omega))
theorem Xa.below {n : Nat} {so : Option Addr} {l : List Ex} {W W' : World} (h : Xa n so l W) (hb : Below W.heap.size W W') : Xa n so l W' :=
 h.mv hb.size (fun q _ hl => hb.block q hl)
theorem Xa.set {n b : Nat} {so : Option Addr} {l : List Ex} {W : World} (h : Xa n so l W) (hb : b < n) (j : Nat) (v : Value) : Xa n so l (W.setCell ⟨b, j, none⟩ v) :=
 h.mv (by simp [World.setCell]) (fun q hq _ => Below.heap_setCell W ⟨b, j, none⟩ v q (show q ≠ b by omega))
theorem Kp.low {pb n : Nat} {w W W' : World} (h : Kp pb w W) (hb : Below n W W') (hn : w.heap.size ≤ n) : Kp pb w W' :=
 ⟨hb.os.trans h.os, hb.tape.trans h.tape, hb.output.trans h.output, Nat.le_trans h.size hb.size, fun q hq hp => (hb.block q (by omega)).trans (h.keeps q hq hp)⟩
theorem Kp.frozen {pb : Nat} {W W' : World} (h : Kp pb W W') {p : Addr} (hp : p.block ≠ pb) (hl : p.block < W.heap.size) {f : Bool} (hc : W.frozen? p = f) : W'.frozen? p = f :=
 (World.frozen?_of_block (h.keeps p.block hl hp)).trans hc
theorem Pa.low {wb : World} {pb n : Nat} {ao : Option Addr} {c : Nat} {l : List Tok} {k : Nat} {W W' : World} (h : Pa wb pb ao c l k W) (hb : Below n W W') (hn : pb < n) (hw : wb.heap.size ≤ pb) : Pa wb pb ao c l k W' :=
 have hs : W'.heap[pb]? = W.heap[pb]? := hb.block pb hn
 ⟨h.b.trans (hb.mono (by omega)), (World.cell?_of_block (a := ⟨pb, 0, none⟩) hs).trans h.c0, (World.cell?_of_block (a := ⟨pb, 1, none⟩) hs).trans h.c1, (World.frozen?_of_block (a := ⟨pb, 1, none⟩) hs).trans h.fr, fun j hj => (World.cell?_of_block (a := ⟨pb, j, none⟩) hs).trans (h.hi j hj), h.le⟩
structure Zx (b : Nat) (W : World) : Prop where
 z0 : W.cell? ⟨b, 0, none⟩ = some (.int .i64 0)
 z1 : W.cell? ⟨b, 1, none⟩ = some (.int .i64 0)
 z2 : W.cell? ⟨b, 2, none⟩ = some (.string ⟨#[]⟩)
 z3 : W.cell? ⟨b, 3, none⟩ = some (.slice none 0 0)
 fz : ∀ j, W.frozen? ⟨b, j, none⟩ = false
theorem Zx.lt {b : Nat} {W : World} (h : Zx b W) : b < W.heap.size := World.block_lt_of_cell? W _ h.z0
theorem Zx.blk {b : Nat} {W W' : World} (h : Zx b W) (hs : W'.heap[b]? = W.heap[b]?) : Zx b W' :=
 ⟨(World.cell?_of_block (a := ⟨b, 0, none⟩) hs).trans h.z0, (World.cell?_of_block (a := ⟨b, 1, none⟩) hs).trans h.z1, (World.cell?_of_block (a := ⟨b, 2, none⟩) hs).trans h.z2, (World.cell?_of_block (a := ⟨b, 3, none⟩) hs).trans h.z3, fun j => (World.frozen?_of_block (a := ⟨b, j, none⟩) hs).trans (h.fz j)⟩
theorem Zx.kp {b pb : Nat} {W W' : World} (h : Zx b W) (k : Kp pb W W') (hne : b ≠ pb) : Zx b W' := h.blk (k.keeps b h.lt hne)
theorem Zx.below {b : Nat} {W W' : World} (h : Zx b W) (k : Below W.heap.size W W') : Zx b W' := h.blk (k.block b h.lt)
theorem Zx.new (w : World) : Zx w.heap.size (w.alloc (.cells #[.int .i64 0, .int .i64 0, .string ⟨#[]⟩, .slice none 0 0] 27)) :=
 ⟨by simp [go_sem], by simp [go_sem], by simp [go_sem], by simp [go_sem], fun j => by simp [go_sem]⟩
def Res (wb : World) (pb : Nat) (ao : Option Addr) (c : Nat) (l : List Tok) (w : World) (o : Out) (r : Ending) (w' : World) : Prop :=
 match o with
 | .ok e _ m => ∃ k' so cap, m = l.drop k' ∧ r = .returned (vx e so cap) ∧ Pa wb pb ao c l k' w' ∧ Kp pb w w' ∧ Xa w.heap.size so e.args w' ∧ (so = none → cap = 0)
 | .bad m => ∃ k', k' ≤ l.length ∧ m = l.drop k' ∧ r = Wr k' ∧ Kp pb w w'
theorem Res.bad {wb : World} {pb : Nat} {ao : Option Addr} {c : Nat} {l : List Tok} {w w' : World} {k : Nat} (hk : k ≤ l.length) (h : Kp pb w w') : Res wb pb ao c l w (.bad (l.drop k)) (Wr k) w' := ⟨k, hk, rfl, rfl, h⟩
theorem Res.box {wb : World} {pb : Nat} {ao : Option Addr} {c : Nat} {l : List Tok} {w W : World} {k' q b : Nat} {e : Ex} {so : Option Addr} {cap : Nat} (hp : Pa wb pb ao c l k' W) (hw : wb.heap.size ≤ pb) (hk : Kp pb w W) (hx : Xa (b + 1) so e.args W) (hc : so = none → cap = 0) (hb : pb < b) (hwb : w.heap.size ≤ b) (x0 x1 x2 x3 : Value) :
  Res wb pb ao c l w (.ok e q (l.drop k')) (.returned (vx e so cap)) ((((W.setCell ⟨b, 0, none⟩ x0).setCell ⟨b, 1, none⟩ x1).setCell ⟨b, 2, none⟩ x2).setCell ⟨b, 3, none⟩ x3) := by
 have hbl : Below b W ((((W.setCell ⟨b, 0, none⟩ x0).setCell ⟨b, 1, none⟩ x1).setCell ⟨b, 2, none⟩ x2).setCell ⟨b, 3, none⟩ x3) :=
  ((((Below.refl b W).setCell (p := ⟨b, 0, none⟩) (Nat.le_refl _) _).setCell (p := ⟨b, 1, none⟩) (Nat.le_refl _) _).setCell (p := ⟨b, 2, none⟩) (Nat.le_refl _) _).setCell (p := ⟨b, 3, none⟩) (Nat.le_refl _) _
 exact ⟨k', so, cap, rfl, rfl, hp.low hbl hb hw, hk.low hbl hwb, ((((hx.set (by omega) 0 x0).set (by omega) 1 x1).set (by omega) 2 x2).set (by omega) 3 x3).mono (by omega), hc⟩
def sgO (t : Tok) (l : List Tok) (k : Nat) : Out :=
 if t.1 = 3 then (if qOk t.2.2 = true then .ok (.mk 3 (qV t.2.2) [] []) 8 (l.drop (k + 1)) else .bad (l.drop k))
 else if t.1 = 1 then .ok (.mk 4 0 t.2.2 []) 8 (l.drop (k + 1))
 else if t.1 = 2 ∧ nOk t.2.2 = true then .ok (.mk 1 (nV t.2.2) [] []) 8 (l.drop (k + 1)) else .bad (l.drop k)
theorem single_T (l : List Tok) (k : Nat) : EM.single (l.drop k) = some (sgO (l.getD k T0) l k) := by
 by_cases h : k < l.length
 ·have hg : l.getD k T0 = l[k] := by simp [List.getD, h]
  have hd := List.drop_eq_getElem_cons h
  unfold sgO
  rw [hg, hd]
  simp only [EM.single, numb]
  by_cases h3 : l[k].1 = 3
  ·simp only [if_pos h3]; split <;> rfl
  ·simp only [if_neg h3]
   by_cases h1 : l[k].1 = 1
   ·simp only [if_pos h1]
   ·simp only [if_neg h1]; split <;> rfl
 ·have hg : l.getD k T0 = T0 := by rw [List.getD_eq_getElem?_getD, List.getElem?_eq_none (by omega)]; rfl
  rw [hg, List.drop_eq_nil_of_le (by omega)]
  unfold sgO
  rw [if_neg (by decide), if_neg (by decide), if_neg (fun h => absurd h.1 (by decide)), List.drop_eq_nil_of_le (by omega)]
  rfl
set_option maxRecDepth 100000 in
set_option maxHeartbeats 4000000 in
theorem qrate (wb : World) (pb : Nat) (ao : Option Addr) (c : Nat) (l : List Tok) (g : Ga wb pb ao c l) (k : Nat) (w : World) (h : Pa wb pb ao c l k w) (hlt : k < l.length) (B : Bool) (hB : qOk (l.getD k T0).2.2 = B) :
  Calls Tryz.prog 124 #[.pointer (some ⟨pb, 0, none⟩)] w fun r w' => (if B then r = .returned (.int .i64 (qV (l.getD k T0).2.2)) ∧ Pa wb pb ao c l (k + 1) w' else r = Wr k) ∧ Kp pb w w' := by
 have hfd : ∀ (a b c : Value) (W : World), (Instr.field 44 (.agg #[a, b, c]) 2).run Tryz.prog W = .ok c W := fun _ _ _ _ => by kernel_rfl
 have NX := Lib.hid (fun W h => mnext wb pb ao c l g k W h)
 have FA := Lib.hid (fun W h => mfail wb pb ao c l g k W h)
 have hlen : (l.getD k T0).2.2.length ≤ 1000000 := g.txt _ (getD_mem' T0 l k hlt)
 have hw := wrap_at k (by have := hlt; have := g.len; omega)
 have hup := g.up
 generalize hT : l.getD k T0 = T at NX hlen hB ⊢
 have RT0 := fun W (hW : Below wb.heap.size wb W) => mrate (str T.2.2) (by rw [str_size]; omega) W (g.gf.1.2.2.keep hW)
 rw [byt_str] at RT0
 have hQ : qOk T.2.2 = decide (rE T.2.2 = 0) := rfl
 have hQV : qV T.2.2 = ((rV T.2.2 : Nat) : Int) := rfl
 rw [hQV]
 rw [hQ] at hB
 generalize rE T.2.2 = E at RT0 hB
 have RT := Lib.hid RT0
 have H := Lib.hid h
 have HU := Lib.hid hup
 have HLT := Lib.hid hlt
 clear hT h hlen hlt g RT0 hQ hQV hup
 by_cases h1 : E = 0
 ·subst h1
  have : B = true := by rw [← hB]; rfl
  subst this
  clear hB
  simp only [if_true]
  go_enter Tryz.func124, Tryz.ntmps124
  go_wp2_with fail
  refine (NX.out _ H.out).mono ?_
  rintro r w1 ⟨rfl, hb1⟩
  have H1 := Lib.hid (H.out.keep hb1)
  have HB1 := Lib.hid hb1
  clear hb1
  unfold tv
  go_wp2_with fail
  refine (RT.out _ H1.out.b).mono ?_
  rintro r w2 ⟨rfl, hb2⟩
  have H2 := Lib.hid (H1.out.keep hb2)
  have K2 := Lib.hid ((Kp.of_below (pb := pb) HB1.out).trans (Kp.of_below hb2))
  have c1 := H2.out.c1
  have fr := H2.out.fr
  clear hb2
  go_wp2_with fail
  go_ret
  exact ⟨⟨rfl, H2.out.step HU.out HLT.out⟩, K2.out.trans (Kp.set pb _ 1 _)⟩
 ·have hne : (E == 0) = false := by rw [beq_eq_false_iff_ne]; exact h1
  have : B = false := by rw [← hB]; exact decide_eq_false h1
  subst this
  clear hB hw
  simp only [Bool.false_eq_true, if_false]
  go_enter Tryz.func124, Tryz.ntmps124
  go_wp2_with fail
  refine (NX.out _ H.out).mono ?_
  rintro r w1 ⟨rfl, hb1⟩
  have H1 := Lib.hid (H.out.keep hb1)
  have HB1 := Lib.hid hb1
  clear hb1
  unfold tv
  go_wp2_with fail
  refine (RT.out _ H1.out.b).mono ?_
  rintro r w2 ⟨rfl, hb2⟩
  have H2 := Lib.hid (H1.out.keep hb2)
  have K2 := Lib.hid ((Kp.of_below (pb := pb) HB1.out).trans (Kp.of_below hb2))
  clear hb2
  go_wp2_with fail
  refine (FA.out _ H2.out).mono ?_
  rintro r w3 ⟨rfl, k3⟩
  unfold Wr
  exact ⟨rfl, rfl, K2.out.trans k3⟩
set_option maxRecDepth 100000 in
set_option maxHeartbeats 4000000 in
theorem qsingle (wb : World) (pb : Nat) (ao : Option Addr) (c : Nat) (l : List Tok) (g : Ga wb pb ao c l) (k : Nat) (w : World) (h : Pa wb pb ao c l k w) :
  Calls Tryz.prog 101 #[.pointer (some ⟨pb, 0, none⟩)] w fun r w' => Res wb pb ao c l w (sgO (l.getD k T0) l k) r w' := by
 have NX := Lib.hid (fun W h => mnext wb pb ao c l g k W h)
 have hlt : (l.getD k T0).1 ≠ 0 → k < l.length := by
  intro h2
  rcases Nat.lt_or_ge k l.length with h' | h'
  ·exact h'
  ·rw [List.getD_eq_getElem?_getD, List.getElem?_eq_none h'] at h2; exact absurd rfl h2
 have RT := fun W h hlt => qrate wb pb ao c l g k W h hlt _ rfl
 have NU := Lib.hid (fun W h => qnumber wb pb ao c l g k W h _ rfl)
 have HLT := Lib.hid hlt
 have HG := Lib.hid g
 have H := Lib.hid h
 have HPB := Lib.hid h.lt
 generalize hT : l.getD k T0 = T at NX HLT RT NU ⊢
 have RT := Lib.hid RT
 clear hT h hlt g
 by_cases h3 : T.1 = 3
 ·have h3' : (T.1 == 3) = true := by rw [beq_iff_eq]; exact h3
  have HL := Lib.hid (HLT.out (by omega))
  cases hq : qOk T.2.2 with
  | true =>
   have hs : sgO T l k = .ok (.mk 3 (qV T.2.2) [] []) 8 (l.drop (k + 1)) := by unfold sgO; rw [if_pos h3, if_pos hq]
   rw [hs]
   clear hs
   go_enter Tryz.func101, Tryz.ntmps101
   go_wp2_with fail
   refine (NX.out _ (H.out.keep (bal (bref _) _))).mono ?_
   rintro r w1 ⟨rfl, hb1⟩
   have H1 := Lib.hid ((H.out.keep (bal (bref _) _)).keep hb1)
   have K1 := Lib.hid (Kp.of_below (pb := pb) (btr (bal (bref _) _) hb1))
   have Z1 := Lib.hid ((Zx.new w).below hb1)
   have hs1 : w.heap.size < w1.heap.size := Z1.out.lt
   have HS1 := Lib.hid hs1
   clear hb1 hs1
   unfold tv
   go_wp2_with fail
   obtain ⟨u1, hu1⟩ : ∃ u1, w1.alloc (.cells #[.int .i64 3, .int .i64 T.2.1, .string (str T.2.2)] 44) = u1 := ⟨_, rfl⟩
   have x2 : u1.cell? ⟨w1.heap.size, 2, none⟩ = some (.string (str T.2.2)) := by rw [← hu1]; simp [go_sem]
   have hbu : Below w1.heap.size w1 u1 := by rw [← hu1]; exact bal (bref _) _
   have HU := Lib.hid (H1.out.keep hbu)
   have KU := Lib.hid (K1.out.trans (Kp.of_below hbu))
   have ZU := Lib.hid (Z1.out.below hbu)
   rw [hu1]
   clear hu1 hbu
   refine (RT.out _ HU.out HL.out).mono ?_
   rintro r w2 ⟨h2, k2⟩
   rw [hq, if_pos rfl] at h2
   obtain ⟨rfl, h2⟩ := h2
   have H2 := Lib.hid h2
   have K2 := Lib.hid (KU.out.trans k2)
   have Z2 := Lib.hid (ZU.out.kp k2 (show w.heap.size ≠ pb by have := HPB.out; omega))
   clear h2 k2
   obtain ⟨z0, z1, z2, z3, fz⟩ := Z2.out
   go_wp2_with fail
   refine bodyPost_ret (by simp [results, Tryz.results101, go_sem, z0, z1, z2, z3]; rfl) rfl ?_
   exact Res.box (e := .mk 3 (qV T.2.2) [] []) H2.out HG.out.up K2.out (Xa.nil _ _ _) (fun _ => rfl) HPB.out (Nat.le_refl _) _ _ _ _
  | false =>
   have hs : sgO T l k = .bad (l.drop k) := by unfold sgO; rw [if_pos h3, if_neg (by rw [hq]; decide)]
   rw [hs]
   clear hs
   go_enter Tryz.func101, Tryz.ntmps101
   go_wp2_with fail
   refine (NX.out _ (H.out.keep (bal (bref _) _))).mono ?_
   rintro r w1 ⟨rfl, hb1⟩
   have H1 := Lib.hid ((H.out.keep (bal (bref _) _)).keep hb1)
   have K1 := Lib.hid (Kp.of_below (pb := pb) (btr (bal (bref _) _) hb1))
   have Z1 := Lib.hid ((Zx.new w).below hb1)
   have hs1 : w.heap.size < w1.heap.size := Z1.out.lt
   have HS1 := Lib.hid hs1
   clear hb1 hs1
   unfold tv
   go_wp2_with fail
   obtain ⟨u1, hu1⟩ : ∃ u1, w1.alloc (.cells #[.int .i64 3, .int .i64 T.2.1, .string (str T.2.2)] 44) = u1 := ⟨_, rfl⟩
   have x2 : u1.cell? ⟨w1.heap.size, 2, none⟩ = some (.string (str T.2.2)) := by rw [← hu1]; simp [go_sem]
   have hbu : Below w1.heap.size w1 u1 := by rw [← hu1]; exact bal (bref _) _
   have HU := Lib.hid (H1.out.keep hbu)
   have KU := Lib.hid (K1.out.trans (Kp.of_below hbu))
   have ZU := Lib.hid (Z1.out.below hbu)
   rw [hu1]
   clear hu1 hbu
   refine (RT.out _ HU.out HL.out).mono ?_
   rintro r w2 ⟨h2, k2⟩
   rw [hq, if_neg (by decide)] at h2
   subst h2
   exact ⟨rfl, Res.bad (Nat.le_of_lt HL.out) (KU.out.trans k2)⟩
 ·have h3' : (T.1 == 3) = false := by rw [beq_eq_false_iff_ne]; exact h3
  by_cases h4 : T.1 = 1
  ·have h4' : (T.1 == 1) = true := by rw [beq_iff_eq]; exact h4
   have HL := Lib.hid (HLT.out (by omega))
   have hs : sgO T l k = .ok (.mk 4 0 T.2.2 []) 8 (l.drop (k + 1)) := by unfold sgO; rw [if_neg h3, if_pos h4]
   rw [hs]
   have hw := wrap_at k (by have := HL.out; have := HG.out.len; omega)
   clear hs
   go_enter Tryz.func101, Tryz.ntmps101
   go_wp2_with fail
   refine (NX.out _ (H.out.keep (bal (bref _) _))).mono ?_
   rintro r w1 ⟨rfl, hb1⟩
   have H1 := Lib.hid ((H.out.keep (bal (bref _) _)).keep hb1)
   have K1 := Lib.hid (Kp.of_below (pb := pb) (btr (bal (bref _) _) hb1))
   have Z1 := Lib.hid ((Zx.new w).below hb1)
   have hs1 : w.heap.size < w1.heap.size := Z1.out.lt
   have HS1 := Lib.hid hs1
   clear hb1 hs1
   unfold tv
   have c1 := (H1.out.keep (bal (bref w1) (.cells #[.int .i64 1, .int .i64 T.2.1, .string (str T.2.2)] 44))).c1
   have fr := (H1.out.keep (bal (bref w1) (.cells #[.int .i64 1, .int .i64 T.2.1, .string (str T.2.2)] 44))).fr
   have n1 : pb ≠ w.heap.size := by have := HPB.out; omega
   have n2 : pb ≠ w1.heap.size := by have := HPB.out; have := HS1.out; omega
   have n3 : w.heap.size ≠ w1.heap.size := by have := HS1.out; omega
   obtain ⟨z0, z1, z2, z3, fz⟩ := Z1.out.below (bal (bref w1) (.cells #[.int .i64 1, .int .i64 T.2.1, .string (str T.2.2)] 44))
   go_wp2_with fail
   refine bodyPost_ret (by simp [results, Tryz.results101, go_sem, z0, z1, z2, z3]; rfl) rfl ?_
   have hbu := bal (bref w1) (.cells #[.int .i64 1, .int .i64 T.2.1, .string (str T.2.2)] 44)
   exact Res.box (e := .mk 4 0 T.2.2 []) ((H1.out.keep hbu).step HG.out.up HL.out) HG.out.up ((K1.out.trans (Kp.of_below hbu)).trans (Kp.set pb _ 1 _)) (Xa.nil _ _ _) (fun _ => rfl) HPB.out (Nat.le_refl _) _ _ _ _
  ·have h4' : (T.1 == 1) = false := by rw [beq_eq_false_iff_ne]; exact h4
   by_cases h5 : T.1 = 2 ∧ nOk T.2.2 = true
   ·have hs : sgO T l k = .ok (.mk 1 (nV T.2.2) [] []) 8 (l.drop (k + 1)) := by unfold sgO; rw [if_neg h3, if_neg h4, if_pos h5]
    have hB : (decide (T.1 = 2) && nOk T.2.2) = true := by rw [decide_eq_true h5.1, h5.2]; rfl
    rw [hs]
    simp only [hB, if_true] at NU
    clear hs hB h5
    go_enter Tryz.func101, Tryz.ntmps101
    go_wp2_with fail
    refine (NX.out _ (H.out.keep (bal (bref _) _))).mono ?_
    rintro r w1 ⟨rfl, hb1⟩
    have H1 := Lib.hid ((H.out.keep (bal (bref _) _)).keep hb1)
    have K1 := Lib.hid (Kp.of_below (pb := pb) (btr (bal (bref _) _) hb1))
    have Z1 := Lib.hid ((Zx.new w).below hb1)
    have hs1 : w.heap.size < w1.heap.size := Z1.out.lt
    have HS1 := Lib.hid hs1
    clear hb1 hs1
    unfold tv
    go_wp2_with fail
    obtain ⟨u1, hu1⟩ : ∃ u1, w1.alloc (.cells #[.int .i64 T.1, .int .i64 T.2.1, .string (str T.2.2)] 44) = u1 := ⟨_, rfl⟩
    have x2 : u1.cell? ⟨w1.heap.size, 2, none⟩ = some (.string (str T.2.2)) := by rw [← hu1]; simp [go_sem]
    have hbu : Below w1.heap.size w1 u1 := by rw [← hu1]; exact bal (bref _) _
    have HU := Lib.hid (H1.out.keep hbu)
    have KU := Lib.hid (K1.out.trans (Kp.of_below hbu))
    have ZU := Lib.hid (Z1.out.below hbu)
    rw [hu1]
    clear hu1 hbu
    refine (NU.out _ HU.out).mono ?_
    rintro r w2 ⟨⟨rfl, h2⟩, k2⟩
    have H2 := Lib.hid h2
    have K2 := Lib.hid (KU.out.trans k2)
    have Z2 := Lib.hid (ZU.out.kp k2 (show w.heap.size ≠ pb by have := HPB.out; omega))
    clear h2 k2
    obtain ⟨z0, z1, z2, z3, fz⟩ := Z2.out
    go_wp2_with fail
    refine bodyPost_ret (by simp [results, Tryz.results101, go_sem, z0, z1, z2, z3]; rfl) rfl ?_
    exact Res.box (e := .mk 1 (nV T.2.2) [] []) H2.out HG.out.up K2.out (Xa.nil _ _ _) (fun _ => rfl) HPB.out (Nat.le_refl _) _ _ _ _
   ·have hs : sgO T l k = .bad (l.drop k) := by unfold sgO; rw [if_neg h3, if_neg h4, if_neg h5]
    have hB : (decide (T.1 = 2) && nOk T.2.2) = false := by
     rw [Bool.and_eq_false_iff]
     by_cases h6 : T.1 = 2
     ·right
      cases hq : nOk T.2.2 with
      | false => rfl
      | true => exact absurd ⟨h6, hq⟩ h5
     ·left; exact decide_eq_false h6
    rw [hs]
    simp only [hB, Bool.false_eq_true, if_false] at NU
    clear hs hB h5
    go_enter Tryz.func101, Tryz.ntmps101
    go_wp2_with fail
    refine (NX.out _ (H.out.keep (bal (bref _) _))).mono ?_
    rintro r w1 ⟨rfl, hb1⟩
    have H1 := Lib.hid ((H.out.keep (bal (bref _) _)).keep hb1)
    have K1 := Lib.hid (Kp.of_below (pb := pb) (btr (bal (bref _) _) hb1))
    have Z1 := Lib.hid ((Zx.new w).below hb1)
    have hs1 : w.heap.size < w1.heap.size := Z1.out.lt
    have HS1 := Lib.hid hs1
    clear hb1 hs1
    unfold tv
    go_wp2_with fail
    obtain ⟨u1, hu1⟩ : ∃ u1, w1.alloc (.cells #[.int .i64 T.1, .int .i64 T.2.1, .string (str T.2.2)] 44) = u1 := ⟨_, rfl⟩
    have x2 : u1.cell? ⟨w1.heap.size, 2, none⟩ = some (.string (str T.2.2)) := by rw [← hu1]; simp [go_sem]
    have hbu : Below w1.heap.size w1 u1 := by rw [← hu1]; exact bal (bref _) _
    have HU := Lib.hid (H1.out.keep hbu)
    have KU := Lib.hid (K1.out.trans (Kp.of_below hbu))
    have ZU := Lib.hid (Z1.out.below hbu)
    rw [hu1]
    clear hu1 hbu
    refine (NU.out _ HU.out).mono ?_
    rintro r w2 ⟨rfl, k2⟩
    exact ⟨rfl, Res.bad H.out.le (KU.out.trans k2)⟩
end Go.Proofs.YtplkphihmfhciaaGreatDoor

/- The parser: infix. -/
namespace Go.Proofs.YtplkphihmfhciaaGreatDoor
open Go Go.RowKit Go.Lib Go.Shelf WM TM EM

def hit (o : Nat) (m : List Tok) : Bool := decide ((o : Int) ∈ infs) && isT (word o).1 (word o).2 m
theorem word_sgn {o : Int} (h : o ∈ infs) : sgn o = some (word o) := by revert h; revert o; decide
theorem infL_hit {o : Nat} {m : List Tok} (h : hit o m = true) : infL m = (o : Int) := by
 unfold hit at h
 rw [Bool.and_eq_true, decide_eq_true_eq] at h
 obtain ⟨t, m', rfl, e1, e2⟩ := isT_cons h.2
 show inf t.1 t.2.2 = _
 rw [e1, e2]
 exact inf_word h.1
theorem infL_none {m : List Tok} (h : ∀ o, o < 20 → hit o m = false) : infL m = 0 := by
 rcases infL_cases m with h0 | ⟨h1, t, m', hm, hs⟩
 ·exact h0
 ·have hr := inf_range h1
  have h2 := h (infL m).toNat (by omega)
  have e : (((infL m).toNat : Nat) : Int) = infL m := by omega
  unfold hit at h2
  rw [e, decide_eq_true h1, Bool.true_and] at h2
  have hw := word_sgn h1
  rw [hs] at hw
  injection hw with hw
  rw [← hw] at h2
  rw [hm] at h2
  simp [isT] at h2
theorem row_btw : ∀ n : Nat, n < 20 → (decide ((rowO n).1 = 2) && decide ((rowO n).2.1 < 9)) = decide ((n : Int) ∈ infs) := by decide
theorem row_word : ∀ n : Nat, n < 20 → (n : Int) ∈ infs → (rowO n).2.2 = word n ∧ (word n).1 ≠ 0 := by decide
set_option maxRecDepth 100000 in
set_option maxHeartbeats 4000000 in
theorem qinfix (wb : World) (pb : Nat) (ao : Option Addr) (c : Nat) (l : List Tok) (g : Ga wb pb ao c l) (k : Nat) (w : World) (h : Pa wb pb ao c l k w) :
  Calls Tryz.prog 46 #[.pointer (some ⟨pb, 0, none⟩)] w fun r w' => r = .returned (.int .i64 (infL (l.drop k))) ∧ Below w.heap.size w w' := by
 obtain ⟨R, hR⟩ : ∃ R, infL (l.drop k) = R := ⟨_, rfl⟩
 rw [hR]
 have HR := Lib.hid hR
 have HG := Lib.hid g
 have H := Lib.hid h
 clear hR g h
 go_enter Tryz.func46, Tryz.ntmps46
 go_wp2_with fail
 go_loopw [5] (fun i wr => ∃ n : Nat, n ≤ 20 ∧ i = .int .i64 n ∧ (∀ o, o < n → hit o (l.drop k) = false) ∧ Below w.heap.size w wr) (fun i _ => 20 - (RowKit.intOf i).toNat)
 case atStart => exact ⟨0, by omega, rfl, fun o ho => absurd ho (Nat.not_lt_zero _), by (repeat (first | exact bref _ | refine bdr ?_ | refine bal ?_ _))⟩
 case round =>
  obtain ⟨n, hn, rfl, hq, hB⟩ := hrel
  have HQ := Lib.hid hq
  have HB := Lib.hid hB
  clear hq hB
  by_cases hlt : n < 20
  ·have hnz : (n : Int) < 20 := by omega
   have hn0 : ¬ ((n : Int) < 0) := by omega
   have hw1 : wrap64 ((n : Int) + 1) = ((n + 1 : Nat) : Int) := wrap_at n (by omega)
   have HP := Lib.hid (H.out.keep HB.out)
   have T := HP.out.b
   have T := (HG.out.gf.keep HP.out.b).1.1.2 n hlt
   have hbt := row_btw n hlt
   have hwd := row_word n hlt
   obtain ⟨a, ha⟩ : ∃ a, (rowO n).1 = a := ⟨_, rfl⟩
   obtain ⟨ρ, hρ⟩ : ∃ a, (rowO n).2.1 = a := ⟨_, rfl⟩
   obtain ⟨κ, hκ⟩ : ∃ a, (rowO n).2.2.1 = a := ⟨_, rfl⟩
   obtain ⟨x, hx⟩ : ∃ a, (rowO n).2.2.2 = a := ⟨_, rfl⟩
   rw [ha, hρ, hκ, hx] at T
   rw [ha, hρ] at hbt
   obtain ⟨t0, t1, t2, t3⟩ := T
   have MB0 := fun W => mbetween a ρ κ (str x) W
   rw [hbt] at MB0
   by_cases hi : (n : Int) ∈ infs
   ·rw [decide_eq_true hi] at MB0
    obtain ⟨e1, e2⟩ := hwd hi
    have SE0 := fun W h => msees wb pb ao c l HG.out k W h κ (by rw [← hκ, e1]; exact e2) x
    obtain ⟨B, hBB⟩ : ∃ B, isT κ x (l.drop k) = B := ⟨_, rfl⟩
    rw [hBB] at SE0
    have hh : hit n (l.drop k) = B := by
     unfold hit
     rw [decide_eq_true hi, Bool.true_and, ← e1, hκ, hx]
     exact hBB
    have HH := Lib.hid hh
    have MB := Lib.hid MB0
    have SE := Lib.hid SE0
    clear MB0 SE0 hwd hbt hi e1 e2 hBB ha hρ hκ hx hh
    cases B with
    | true =>
     have HRn : Hid (R = (n : Int)) := Lib.hid (by rw [← HR.out]; exact infL_hit HH.out)
     go_wp2_with fail
     refine (MB.out _).mono ?_
     rintro r w1 ⟨rfl, hb1⟩
     have HB1 := Lib.hid (btr (bal (bref wr) _) hb1)
     have y2 := keepc hb1 (show (wr.alloc (.cells #[.int .i64 a, .int .i64 ρ, .int .i64 κ, .string (str x)] 75)).cell? ⟨wr.heap.size, 2, none⟩ = some (.int .i64 κ) by simp [go_sem])
     have y3 := keepc hb1 (show (wr.alloc (.cells #[.int .i64 a, .int .i64 ρ, .int .i64 κ, .string (str x)] 75)).cell? ⟨wr.heap.size, 3, none⟩ = some (.string (str x)) by simp [go_sem])
     clear hb1
     go_wp2_with fail
     refine (SE.out _ (HP.out.keep HB1.out)).mono ?_
     rintro r w2 ⟨rfl, hb2⟩
     have HB2 := Lib.hid (btr HB.out (btr HB1.out hb2))
     clear hb2
     go_wp2_with fail
     go_ret
     exact ⟨by rw [HRn.out]; rfl, HB2.out⟩
    | false =>
     go_wp2_with fail
     refine (MB.out _).mono ?_
     rintro r w1 ⟨rfl, hb1⟩
     have HB1 := Lib.hid (btr (bal (bref wr) _) hb1)
     have y2 := keepc hb1 (show (wr.alloc (.cells #[.int .i64 a, .int .i64 ρ, .int .i64 κ, .string (str x)] 75)).cell? ⟨wr.heap.size, 2, none⟩ = some (.int .i64 κ) by simp [go_sem])
     have y3 := keepc hb1 (show (wr.alloc (.cells #[.int .i64 a, .int .i64 ρ, .int .i64 κ, .string (str x)] 75)).cell? ⟨wr.heap.size, 3, none⟩ = some (.string (str x)) by simp [go_sem])
     clear hb1
     go_wp2_with fail
     refine (SE.out _ (HP.out.keep HB1.out)).mono ?_
     rintro r w2 ⟨rfl, hb2⟩
     have HB2 := Lib.hid (btr HB.out (btr HB1.out hb2))
     clear hb2
     go_wp2_with fail
     go_roundw
     case rel => exact ⟨n + 1, by omega, rfl, fun o ho => by
      rcases Nat.lt_or_ge o n with h | h
      ·exact HQ.out o h
      ·have : o = n := by omega
       subst this
       exact HH.out, btr (bref _) HB2.out⟩
     case measure => simp [RowKit.intOf]; omega
   ·rw [decide_eq_false hi] at MB0
    have MB := Lib.hid MB0
    have HH : Hid (hit n (l.drop k) = false) := Lib.hid (by unfold hit; rw [decide_eq_false hi]; rfl)
    clear MB0 hwd hbt hi ha hρ hκ hx
    go_wp2_with fail
    refine (MB.out _).mono ?_
    rintro r w1 ⟨rfl, hb1⟩
    have HB1 := Lib.hid (btr (bal (bref wr) _) hb1)
    clear hb1
    go_wp2_with fail
    go_roundw
    case rel => exact ⟨n + 1, by omega, rfl, fun o ho => by
     rcases Nat.lt_or_ge o n with h | h
     ·exact HQ.out o h
     ·have : o = n := by omega
      subst this
      exact HH.out, btr (bref _) (btr HB.out HB1.out)⟩
    case measure => simp [RowKit.intOf]; omega
  ·have he : n = 20 := by omega
   subst he
   have HRn : Hid (R = 0) := Lib.hid (by rw [← HR.out]; exact infL_none HQ.out)
   go_wp2_with fail
   go_ret
   exact ⟨by rw [HRn.out]; rfl, HB.out⟩
end Go.Proofs.YtplkphihmfhciaaGreatDoor

/- The parser: what lies between; pair. -/
namespace Go.Proofs.YtplkphihmfhciaaGreatDoor
open Go Go.RowKit Go.Lib Go.Shelf WM TM EM

structure Vx (b : Nat) (e : Ex) (so : Option Addr) (cap : Nat) (W : World) : Prop where
 v0 : W.cell? ⟨b, 0, none⟩ = some (.int .i64 e.op)
 v1 : W.cell? ⟨b, 1, none⟩ = some (.int .i64 e.n)
 v2 : W.cell? ⟨b, 2, none⟩ = some (.string (str e.s))
 v3 : W.cell? ⟨b, 3, none⟩ = some (.slice so e.args.length cap)
 fz : ∀ j, W.frozen? ⟨b, j, none⟩ = false
theorem Vx.lt {b : Nat} {e : Ex} {so : Option Addr} {cap : Nat} {W : World} (h : Vx b e so cap W) : b < W.heap.size := World.block_lt_of_cell? W _ h.v0
theorem Vx.blk {b : Nat} {e : Ex} {so : Option Addr} {cap : Nat} {W W' : World} (h : Vx b e so cap W) (hs : W'.heap[b]? = W.heap[b]?) : Vx b e so cap W' :=
 ⟨(World.cell?_of_block (a := ⟨b, 0, none⟩) hs).trans h.v0, (World.cell?_of_block (a := ⟨b, 1, none⟩) hs).trans h.v1, (World.cell?_of_block (a := ⟨b, 2, none⟩) hs).trans h.v2, (World.cell?_of_block (a := ⟨b, 3, none⟩) hs).trans h.v3, fun j => (World.frozen?_of_block (a := ⟨b, j, none⟩) hs).trans (h.fz j)⟩
theorem Vx.kp {b pb : Nat} {e : Ex} {so : Option Addr} {cap : Nat} {W W' : World} (h : Vx b e so cap W) (k : Kp pb W W') (hne : pb < b) : Vx b e so cap W' := h.blk (k.keeps b h.lt (by omega))
theorem Vx.below {b : Nat} {e : Ex} {so : Option Addr} {cap : Nat} {W W' : World} (h : Vx b e so cap W) (k : Below W.heap.size W W') : Vx b e so cap W' := h.blk (k.block b h.lt)
def bx (W : World) (e : Ex) (so : Option Addr) (cap : Nat) : World :=
 W.alloc (.cells #[.int .i64 e.op, .int .i64 e.n, .string (str e.s), .slice so e.args.length cap] 27)
theorem bx_below (W : World) (e : Ex) (so : Option Addr) (cap : Nat) : Below W.heap.size W (bx W e so cap) := bal (bref W) _
theorem fz_new (W : World) (cs : Array Value) (t : TypeId) (j : Nat) : (W.alloc (.cells cs t)).frozen? ⟨W.heap.size, j, none⟩ = false := by simp [go_sem]
theorem bx_vx (W : World) (e : Ex) (so : Option Addr) (cap : Nat) : Vx W.heap.size e so cap (bx W e so cap) := by
 unfold bx
 exact ⟨by simp [go_sem], by simp [go_sem], by simp [go_sem], by simp [go_sem], fun j => fz_new _ _ _ _⟩
theorem Xa.new {n : Nat} {W : World} (xs : List Nd) (h : ∀ x ∈ xs, Xa n x.2.1 x.1.args W ∧ (x.2.1 = none → x.2.2 = 0)) (hn : n ≤ W.heap.size) (t : TypeId) : Xa n (some ⟨W.heap.size, 0, none⟩) (xs.map (·.1)) (W.alloc (.cells (xrow xs).toArray t)) := by
 intro W' hs hk
 have hsz : (W.alloc (.cells (xrow xs).toArray t)).heap.size = W.heap.size + 1 := by simp
 rw [hsz] at hs hk
 have hB := hk W.heap.size hn (by omega)
 refine ExprsAt.mk fun i hi => ?_
 rw [List.length_map] at hi
 have hx : (xs.map (·.1)).getD i E0 = xs[i].1 := by simp [List.getD, hi]
 have hc : ∀ j, j < 4 → W'.cell? ⟨W.heap.size, 0 + i * 4 + j, none⟩ = (xcs xs[i])[j]? := by
  intro j hj
  rw [World.cell?_of_block (a := ⟨W.heap.size, 0 + i * 4 + j, none⟩) hB, World.cell?_alloc_new, Nat.zero_add, List.getElem?_toArray]
  exact xrow_at xs i hi j hj
 obtain ⟨h1, h2⟩ := h xs[i] (List.getElem_mem hi)
 rw [hx]
 refine ⟨W.heap.size, 0, xs[i].2.1, xs[i].2.2, rfl, by omega, hc 0 (by omega), hc 1 (by omega), hc 2 (by omega), hc 3 (by omega), ?_, h2⟩
 exact h1 W' (by omega) (fun q hq hl => (hk q hq (by omega)).trans ((bal (bref W) _).block q hl))
theorem must_yes {k : Int} {x : List UInt8} {m : List Tok} {f : List Tok → Option Out} (h : isT k x m = true) : must k x m f = f m.tail := by unfold must; rw [if_pos h]
theorem must_no {k : Int} {x : List UInt8} {m : List Tok} {f : List Tok → Option Out} (h : isT k x m = false) : must k x m f = some (.bad m) := by unfold must; rw [if_neg (by rw [h]; decide)]
theorem bind_cases {a : Option Out} {f : Ex → Nat → List Tok → Option Out} {o : Out} (h : a.bind (Out.thn f) = some o) :
  (∃ e k m, a = some (.ok e k m) ∧ f e k m = some o) ∨ (∃ m, a = some (.bad m) ∧ o = .bad m) := by
 cases a with
 | none => cases h
 | some q =>
  cases q with
  | ok e k m => exact Or.inl ⟨e, k, m, rfl, h⟩
  | bad m =>
   right
   refine ⟨m, rfl, ?_⟩
   have : some (Out.bad m) = some o := h
   injection this with this
   exact this.symm
theorem tl (l : List Tok) (k : Nat) : (l.drop k).tail = l.drop (k + 1) := by rw [List.tail_drop]
def CE (wb : World) (pb : Nat) (ao : Option Addr) (c : Nat) (l : List Tok) (n : Nat) : Prop := ∀ (r k : Nat) (w : World) (o : Out), r ≤ 7 → Pa wb pb ao c l k w → ex n r (l.drop k) = some o →
 Calls Tryz.prog 29 #[.pointer (some ⟨pb, 0, none⟩), .int .i64 ((r : Int) + 1)] w fun e w' => Res wb pb ao c l w o e w'
def ResF (wb : World) (pb : Nat) (ao : Option Addr) (c : Nat) (l : List Tok) (w : World) (o : Out) (r : Ending) (w' : World) : Prop :=
 match o with
 | .ok e q m => ∃ k' so cap, m = l.drop k' ∧ r = .returned (.tuple #[vx e so cap, .int .i64 ((q : Int) + 1)]) ∧ Pa wb pb ao c l k' w' ∧ Kp pb w w' ∧ Xa w.heap.size so e.args w' ∧ (so = none → cap = 0)
 | .bad m => ∃ k', k' ≤ l.length ∧ m = l.drop k' ∧ r = Wr k' ∧ Kp pb w w'
def CF (wb : World) (pb : Nat) (ao : Option Addr) (c : Nat) (l : List Tok) (n : Nat) : Prop := ∀ (r k : Nat) (w : World) (o : Out), r ≤ 7 → Pa wb pb ao c l k w → fi n r (l.drop k) = some o →
 Calls Tryz.prog 45 #[.pointer (some ⟨pb, 0, none⟩), .int .i64 ((r : Int) + 1)] w fun e w' => ResF wb pb ao c l w o e w'
def CP (wb : World) (pb : Nat) (ao : Option Addr) (c : Nat) (l : List Tok) (n : Nat) : Prop := ∀ (k : Nat) (w : World) (o : Out), Pa wb pb ao c l k w → pr n (l.drop k) = some o →
 Calls Tryz.prog 73 #[.pointer (some ⟨pb, 0, none⟩)] w fun e w' => Res wb pb ao c l w o e w'
def ResQ (wb : World) (pb : Nat) (ao : Option Addr) (c : Nat) (l : List Tok) (w : World) (q : Int) (o : Out) (r : Ending) (w' : World) : Prop :=
 match o with
 | .ok e _ m => ∃ k' so cap a b, e = .mk q 0 [] [a, b] ∧ m = l.drop k' ∧ r = .returned (.slice so 2 cap) ∧ Pa wb pb ao c l k' w' ∧ Kp pb w w' ∧ Xa w.heap.size so [a, b] w' ∧ (so = none → cap = 0)
 | .bad m => ∃ k', k' ≤ l.length ∧ m = l.drop k' ∧ r = Wr k' ∧ Kp pb w w'
def CQ (wb : World) (pb : Nat) (ao : Option Addr) (c : Nat) (l : List Tok) (n : Nat) : Prop := ∀ (q : Int) (k : Nat) (w : World) (o : Out), Pa wb pb ao c l k w → pair n q (l.drop k) = some o →
 Calls Tryz.prog 100 #[.pointer (some ⟨pb, 0, none⟩)] w fun e w' => ResQ wb pb ao c l w q o e w'
set_option maxRecDepth 100000 in
set_option maxHeartbeats 4000000 in
theorem qpair (wb : World) (pb : Nat) (ao : Option Addr) (c : Nat) (l : List Tok) (g : Hid (Ga wb pb ao c l)) (n : Nat) (ce : Hid (CE wb pb ao c l n)) : CQ wb pb ao c l (n + 1) := by
 intro q k0 w0 o h ho0
 have ho := ho0
 clear ho0
 rw [pair] at ho
 have HPW := Lib.hid h.lt
 have H0 := Lib.hid h
 have K0 := Lib.hid (Kp.refl pb w0)
 clear h
 go_enter Tryz.func100, Tryz.ntmps100
 cases hB : isT 4 [40] (l.drop k0) with
 | false =>
  rw [must_no hB] at ho
  injection ho with ho
  subst ho
  have RQ := Lib.hid (fun W h => mrequires wb pb ao c l g.out k0 W h 4 (by decide) [40] false hB)
  simp only [Bool.false_eq_true, if_false] at RQ
  go_wp2_with fail
  refine (RQ.out _ H0.out).mono ?_
  rintro r v ⟨rfl, kv⟩
  exact ⟨rfl, ⟨_, H0.out.le, rfl, rfl, K0.out.trans kv⟩⟩
 | true =>
  rw [must_yes hB, tl] at ho
  have RQ := Lib.hid (fun W h => mrequires wb pb ao c l g.out k0 W h 4 (by decide) [40] true hB)
  simp only [if_true] at RQ
  go_wp2_with fail
  refine (RQ.out _ H0.out).mono ?_
  rintro r w1 ⟨⟨rfl, h1⟩, kv⟩
  obtain ⟨k1, hk1⟩ : ∃ q, k0 + 1 = q := ⟨_, rfl⟩
  rw [hk1] at h1 ho
  have H1 := Lib.hid h1
  have K1 := Lib.hid (K0.out.trans kv)
  clear RQ h1 kv hB hk1
  rcases bind_cases ho with ⟨a, qa, ma, ha, ho⟩ | ⟨ma, ha, rfl⟩
  rotate_left
  ·have EX := Lib.hid (fun W h => ce.out 0 k1 W _ (by omega) h ha)
   go_wp2_with fail
   refine (EX.out _ H1.out).mono ?_
   rintro r v ⟨k', hk', rfl, rfl, kv⟩
   exact ⟨rfl, ⟨_, hk', rfl, rfl, K1.out.trans kv⟩⟩
  have EX := Lib.hid (fun W h => ce.out 0 k1 W _ (by omega) h ha)
  go_wp2_with fail
  refine (EX.out _ H1.out).mono ?_
  rintro r u2 ⟨k2, soa, capa, rfl, rfl, hp, kv, xa, hca⟩
  unfold vx
  have H2 := Lib.hid (hp.keep (bx_below u2 a soa capa))
  have K2 := Lib.hid ((K1.out.trans kv).trans (Kp.of_below (bx_below u2 a soa capa)))
  have Va2 := Lib.hid (bx_vx u2 a soa capa)
  have Xa2 := Lib.hid ((xa.mono K1.out.size).below (bx_below u2 a soa capa))
  have HPB_a := Lib.hid hp.lt
  have HCa := Lib.hid hca
  clear EX hp kv xa hca ha
  cases hB : isT 4 [44] (l.drop k2) with
  | false =>
   rw [must_no hB] at ho
   injection ho with ho
   subst ho
   have RQ := Lib.hid (fun W h => mrequires wb pb ao c l g.out k2 W h 4 (by decide) [44] false hB)
   simp only [Bool.false_eq_true, if_false] at RQ
   go_wp2_with fail
   refine (RQ.out _ H2.out).mono ?_
   rintro r v ⟨rfl, kv⟩
   exact ⟨rfl, ⟨_, H2.out.le, rfl, rfl, K2.out.trans kv⟩⟩
  | true =>
   rw [must_yes hB, tl] at ho
   have RQ := Lib.hid (fun W h => mrequires wb pb ao c l g.out k2 W h 4 (by decide) [44] true hB)
   simp only [if_true] at RQ
   go_wp2_with fail
   refine (RQ.out _ H2.out).mono ?_
   rintro r w3 ⟨⟨rfl, h3⟩, kv⟩
   obtain ⟨k3, hk3⟩ : ∃ q, k2 + 1 = q := ⟨_, rfl⟩
   rw [hk3] at h3 ho
   have H3 := Lib.hid h3
   have K3 := Lib.hid (K2.out.trans kv)
   have Va3 := Lib.hid (Va2.out.kp kv HPB_a.out)
   have Xa3 := Lib.hid (Xa2.out.kp kv HPW.out)
   clear RQ h3 kv hB hk3
   rcases bind_cases ho with ⟨b, qb, mb, hb, ho⟩ | ⟨mb, hb, rfl⟩
   rotate_left
   ·have EX := Lib.hid (fun W h => ce.out 0 k3 W _ (by omega) h hb)
    go_wp2_with fail
    refine (EX.out _ H3.out).mono ?_
    rintro r v ⟨k', hk', rfl, rfl, kv⟩
    exact ⟨rfl, ⟨_, hk', rfl, rfl, K3.out.trans kv⟩⟩
   have EX := Lib.hid (fun W h => ce.out 0 k3 W _ (by omega) h hb)
   go_wp2_with fail
   refine (EX.out _ H3.out).mono ?_
   rintro r u4 ⟨k4, sob, capb, rfl, rfl, hp, kv, xa, hcb⟩
   unfold vx
   have H4 := Lib.hid (hp.keep (bx_below u4 b sob capb))
   have K4 := Lib.hid ((K3.out.trans kv).trans (Kp.of_below (bx_below u4 b sob capb)))
   have Vb4 := Lib.hid (bx_vx u4 b sob capb)
   have Xb4 := Lib.hid ((xa.mono K3.out.size).below (bx_below u4 b sob capb))
   have HPB_b := Lib.hid hp.lt
   have HCb := Lib.hid hcb
   have Va4 := Lib.hid ((Va3.out.kp kv HPB_a.out).below (bx_below u4 b sob capb))
   have Xa4 := Lib.hid ((Xa3.out.kp kv HPW.out).below (bx_below u4 b sob capb))
   clear EX hp kv xa hcb hb
   cases hB : isT 4 [41] (l.drop k4) with
   | false =>
    rw [must_no hB] at ho
    injection ho with ho
    subst ho
    have RQ := Lib.hid (fun W h => mrequires wb pb ao c l g.out k4 W h 4 (by decide) [41] false hB)
    simp only [Bool.false_eq_true, if_false] at RQ
    go_wp2_with fail
    refine (RQ.out _ H4.out).mono ?_
    rintro r v ⟨rfl, kv⟩
    exact ⟨rfl, ⟨_, H4.out.le, rfl, rfl, K4.out.trans kv⟩⟩
   | true =>
    rw [must_yes hB, tl] at ho
    have RQ := Lib.hid (fun W h => mrequires wb pb ao c l g.out k4 W h 4 (by decide) [41] true hB)
    simp only [if_true] at RQ
    go_wp2_with fail
    refine (RQ.out _ H4.out).mono ?_
    rintro r w5 ⟨⟨rfl, h5⟩, kv⟩
    obtain ⟨k5, hk5⟩ : ∃ q, k4 + 1 = q := ⟨_, rfl⟩
    rw [hk5] at h5 ho
    have H5 := Lib.hid h5
    have K5 := Lib.hid (K4.out.trans kv)
    have Va5 := Lib.hid (Va4.out.kp kv HPB_a.out)
    have Xa5 := Lib.hid (Xa4.out.kp kv HPW.out)
    have Vb5 := Lib.hid (Vb4.out.kp kv HPB_b.out)
    have Xb5 := Lib.hid (Xb4.out.kp kv HPW.out)
    clear RQ h5 kv hB hk5
    obtain ⟨a0, a1, a2, a3, af⟩ := Va5.out
    obtain ⟨b0, b1, b2, b3, bf⟩ := Vb5.out
    go_wp2_with fail
    go_ret
    injection ho with ho
    subst ho
    have hS := K5.out.size
    have hx := Xa.new (W := w5) [(a, soa, capa), (b, sob, capb)] (by
     intro x hx
     simp only [List.mem_cons, List.not_mem_nil, or_false] at hx
     rcases hx with rfl | rfl
     ·exact ⟨Xa5.out, HCa.out⟩
     ·exact ⟨Xb5.out, HCb.out⟩) hS 27
    have hb := bal (bref w5) (.cells (xrow [(a, soa, capa), (b, sob, capb)]).toArray 27)
    exact ⟨_, _, _, a, b, rfl, rfl, rfl, H5.out.keep hb, K5.out.trans (Kp.of_below hb), hx, fun h => by cases h⟩
end Go.Proofs.YtplkphihmfhciaaGreatDoor
