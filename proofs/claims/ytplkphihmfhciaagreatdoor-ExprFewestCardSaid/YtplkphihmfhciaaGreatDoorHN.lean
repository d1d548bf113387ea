/-
  The walk of ExprFewest.
-/
import Derived.Test.YtplkphihmfhciaaGreatDoorHL
namespace Go.Proofs.YtplkphihmfhciaaGreatDoor
open Go Go.RowKit Go.Lib Go.Shelf WM TM EM

theorem toks_take {ao : Option Addr} {l : List Tok} {W : World} (h : TokensAt ao l W) (k : Nat) : TokensAt ao (l.take k) W := by
 intro i hi
 rw [List.length_take] at hi
 obtain ⟨b, off, e, hb, c0, c1, c2⟩ := h i (by omega)
 have e2 : (l.take k).getD i T0 = l.getD i T0 := by simp [List.getD, show i < k by omega]
 rw [e2]
 exact ⟨b, off, e, hb, c0, c1, c2⟩
theorem toks_drop {b off : Nat} {l : List Tok} {W : World} (h : TokensAt (some ⟨b, off, none⟩) l W) (k : Nat) : TokensAt (some ⟨b, off + k * 3, none⟩) (l.drop k) W := by
 intro i hi
 rw [List.length_drop] at hi
 obtain ⟨b', off', e, hb, c0, c1, c2⟩ := h (k + i) (by omega)
 cases e
 have e2 : (l.drop k).getD i T0 = l.getD (k + i) T0 := by simp [List.getD]
 rw [e2]
 rw [show off + (k + i) * 3 = off + k * 3 + i * 3 by omega] at c0 c1 c2
 exact ⟨b, off + k * 3, rfl, hb, c0, c1, c2⟩
theorem app_run {w : World} (base : Nat) (v : Value) (l : List Tok) (hown : OT base v l w) (ao : Option Addr) (m : List Tok) (n c : Nat) (hn : m.length = n) (hm : TokensAt ao m w) (hnone : ao = none → m.length = 0 ∧ c = 0) (hl : l.length + m.length ≤ 10000000) (hbase : base ≤ w.heap.size) :
  ∃ v' w', (Builtin.append_ #[22, 22] 22 #[v, .slice ao n c]).run Tryz.prog w = .ok v' w' ∧ OT base v' (l ++ m) w' ∧ Below base w w' := by
 obtain ⟨i, hi, hz, hz1, hz2⟩ := info_parts infoTok
 subst hn
 obtain ⟨v', w', h1, h2, h3, _⟩ := append_any (P := Tryz.prog) (w := w) base 22 22 44 i _ 3 32 Tryz.underlying22 hi hz hz1 hz2 rfl (by decide) v l.length (toks l) hown ao m.length c (toks m) (toks_length m) hnone (toks_news hm) (toks_mem m) (by unfold maxLen; omega) (by omega) hbase
 refine ⟨v', w', h1, ?_, (Below.refl base w).grown h3 hbase (fun b hb => (hown.lt b hb).1)⟩
 unfold OT
 rw [toks_app, List.length_append]
 exact h2
theorem wpList_app_toksn {w : World} {ops : Array Oper} {rest : List Oper} {o : Oper} {a : Act} {Q : Exit → Act → World → Prop} (hgd : o.guard = none) (s x : Operand)
  (ho : o.op = .call { callee := .builtin .append, args := #[s, x], argTypes := #[22, 22] })
  (base : Nat) (v : Value) (l : List Tok) (hs : a.eval s = v) (hown : OT base v l w) (ao : Option Addr) (m : List Tok) (n c : Nat) (hn : m.length = n) (hx : a.eval x = .slice ao n c) (hm : TokensAt ao m w) (hnone : ao = none → m.length = 0 ∧ c = 0)
  (hl : l.length + m.length ≤ 10000000) (hbase : base ≤ w.heap.size)
  (h : ∀ v' w', OT base v' (l ++ m) w' → Below base w w' → wpList Tryz.prog ops Q rest (a.put o.dst v') w') : wpList Tryz.prog ops Q (o :: rest) a w := by
 subst hn
 exact wpList_app_toks hgd s x ho base v l hs hown ao m c hx hm hnone hl hbase h
theorem pO_small (l : List Tok) (k0 : Int) (o : Out) : siz (pO l k0 o).1 ≤ 64 := by
 have h0 : siz E0 ≤ 64 := by decide
 cases o with
 | bad m => exact h0
 | ok e q m =>
  by_cases h : vE e = 0
  ·simp only [pO, if_pos h]; exact (vE_ok h).2.1
  ·simp only [pO, if_neg h]; exact h0
theorem last_no {e : Ex} {B L : List Tok} {i k : Nat} (hik : i < k) (hk : k < B.length) (h40 : (B.getD i T0).2.2 = [40])
  (HF : ∀ i k, i < k → k < B.length → (B.getD i T0).2.2 = [40] → ∀ x q, E 0 (without B i k) (.ok x q []) → x ≠ e) (hL : L = without B i k) {o : Out} (ho : E 0 (L.drop 0) o) (h1 : (pO L 0 o).2.2 = 0) (h2 : (pO L 0 o).2.1 = (L.length : Int)) : (pO L 0 o).1 ≠ e := by
 rw [List.drop_zero] at ho
 cases o with
 | bad m => exact absurd (show (2 : Int) = 0 from h1) (by decide)
 | ok y q m =>
  by_cases h : vE y = 0
  ·simp only [pO, if_pos h] at h2 ⊢
   have hs := ho.siz
   have hm : m = [] := List.eq_nil_of_length_eq_zero (by omega)
   subst hm
   rw [hL] at ho
   exact HF i k hik hk h40 y q ho
  ·simp only [pO, if_neg h] at h1
   exact absurd h1 h
set_option maxRecDepth 100000 in
set_option maxHeartbeats 16000000 in
theorem exprFewest (e : Ex) (so : Option Addr) (cap : Nat) (w : World) (hG : Gf w) (hS : Es w) (hL : Lies (e, so, cap) w) :
  Calls Tryz.prog 7 #[.agg #[.int .i64 e.op, .int .i64 e.n, .string (str e.s), .slice so e.args.length cap]] w fun r w' => r = .returned (.bool true) ∧ Below w.heap.size w w' := by
 have LV := Lib.hid (fun W (hW : Below w.heap.size w W) => mlive W (hG.keep hW) (hS.keep hW))
 have GR := Lib.hid (fun W (hW : Below w.heap.size w W) => rgreat e 300 so cap W (by decide) (hL.1.keep hW))
 have MV := Lib.hid (fun W (hW : Below w.heap.size w W) => mvalidate e so cap W (hG.1.keep hW) (hL.keep hW))
 have hb2 : Below w.heap.size w (w.alloc (.cells #[.int .i64 e.op, .int .i64 e.n, .string (str e.s), .slice so e.args.length cap] 27)) := bal (bref _) _
 cases hg : grtB e 300 with
 | true =>
  rw [hg] at GR
  clear hg hG hS hL
  go_enter Tryz.func7, Tryz.ntmps7
  go_wp2_with fail
  refine (GR.out _ hb2).mono ?_
  rintro r w1 ⟨rfl, hb1⟩
  have HB1 := Lib.hid (btr hb2 hb1)
  clear hb1
  go_wp2_with fail
  refine (LV.out _ HB1.out).mono ?_
  rintro r w9 ⟨rfl, hb9⟩
  have HB9 := Lib.hid (btr HB1.out hb9)
  clear hb9
  go_wp2_with fail
  go_ret
  exact ⟨rfl, HB9.out⟩
 | false =>
  have hsz : siz e ≤ 300 := grt_siz hg
  rw [hg] at GR
  clear hg
  by_cases hv : vE e = 0
  rotate_left
  ·obtain ⟨V, hV⟩ : ∃ V, vE e = V := ⟨_, rfl⟩
   rw [hV] at MV hv
   have gv : (V == 0) = false := by rw [beq_eq_false_iff_ne]; exact hv
   clear hv hV hG hS hL
   go_enter Tryz.func7, Tryz.ntmps7
   go_wp2_with fail
   refine (GR.out _ hb2).mono ?_
   rintro r w1 ⟨rfl, hb1⟩
   have HB1 := Lib.hid (btr hb2 hb1)
   have k0 := keepc hb1 (show (w.alloc (.cells #[.int .i64 e.op, .int .i64 e.n, .string (str e.s), .slice so e.args.length cap] 27)).cell? ⟨w.heap.size, 0, none⟩ = some (.int .i64 e.op) by simp [go_sem])
   have k1 := keepc hb1 (show (w.alloc (.cells #[.int .i64 e.op, .int .i64 e.n, .string (str e.s), .slice so e.args.length cap] 27)).cell? ⟨w.heap.size, 1, none⟩ = some (.int .i64 e.n) by simp [go_sem])
   have k2 := keepc hb1 (show (w.alloc (.cells #[.int .i64 e.op, .int .i64 e.n, .string (str e.s), .slice so e.args.length cap] 27)).cell? ⟨w.heap.size, 2, none⟩ = some (.string (str e.s)) by simp [go_sem])
   have k3 := keepc hb1 (show (w.alloc (.cells #[.int .i64 e.op, .int .i64 e.n, .string (str e.s), .slice so e.args.length cap] 27)).cell? ⟨w.heap.size, 3, none⟩ = some (.slice so e.args.length cap) by simp [go_sem])
   clear hb1
   go_wp2_with fail
   refine (MV.out _ HB1.out).mono ?_
   rintro r w2 ⟨rfl, hb⟩
   have HB2 := Lib.hid (btr HB1.out hb)
   clear hb
   go_wp2_with fail
   refine (LV.out _ HB2.out).mono ?_
   rintro r w9 ⟨rfl, hb9⟩
   have HB9 := Lib.hid (btr HB2.out hb9)
   clear hb9
   go_wp2_with fail
   go_ret
   exact ⟨rfl, HB9.out⟩
  ·have hok := vE_ok hv
   have hg : gT e = body e := by unfold gT; rw [if_pos hv]
   have HB := Lib.hid (body_SB e hok.2.2.1 hok.2.2.2)
   have HBL := Lib.hid (body_len e)
   have HPO := Lib.hid (body_pos hok.2.2.1)
   have HVE := Lib.hid hv
   have MT := Lib.hid (fun W (hW : Below w.heap.size w W) => mtokens e so cap W (hG.keep hW) (hL.keep hW))
   rw [hv] at MV MT
   rw [hg] at MT
   have MP := Lib.hid (fun ao c l o W (hW : Below w.heap.size w W) (hT : TokensAt ao l W) (hl : l.length ≤ 1000000) (htx : ∀ t ∈ l, t.2.2.length ≤ 1000000) (ho : E 0 (l.drop 0) o) => mparse ao c l 0 (Nat.zero_le _) W (hG.keep hW) (hS.keep hW) hT hl htx o ho)
   have HLE := Lib.hid hL
   have HSI := Lib.hid hsz
   have HFW := Lib.hid (fun i k (hik : i < k) (hk : k < (body e).length) (hi : ((body e).getD i T0).2.2 = [40]) x q (h : E 0 (without (body e) i k) (.ok x q [])) => fewer hik hk hi h)
   obtain ⟨B, hBdef⟩ : ∃ B, body e = B := ⟨_, rfl⟩
   rw [hBdef] at MT HB HBL HPO HFW
   have hBl : B.length ≤ 3000 := by have := HBL.out; omega
   obtain ⟨n, hn⟩ : ∃ n, B.length = n := ⟨_, rfl⟩
   have HN := Lib.hid hn
   rw [hn] at MT hBl
   clear hv hok hg hG hS hL hBdef hsz hn
   go_enter Tryz.func7, Tryz.ntmps7
   go_wp2_with fail
   refine (GR.out _ hb2).mono ?_
   rintro r w1 ⟨rfl, hb1⟩
   have HB1 := Lib.hid (btr hb2 hb1)
   have k0 := keepc hb1 (show (w.alloc (.cells #[.int .i64 e.op, .int .i64 e.n, .string (str e.s), .slice so e.args.length cap] 27)).cell? ⟨w.heap.size, 0, none⟩ = some (.int .i64 e.op) by simp [go_sem])
   have k1 := keepc hb1 (show (w.alloc (.cells #[.int .i64 e.op, .int .i64 e.n, .string (str e.s), .slice so e.args.length cap] 27)).cell? ⟨w.heap.size, 1, none⟩ = some (.int .i64 e.n) by simp [go_sem])
   have k2 := keepc hb1 (show (w.alloc (.cells #[.int .i64 e.op, .int .i64 e.n, .string (str e.s), .slice so e.args.length cap] 27)).cell? ⟨w.heap.size, 2, none⟩ = some (.string (str e.s)) by simp [go_sem])
   have k3 := keepc hb1 (show (w.alloc (.cells #[.int .i64 e.op, .int .i64 e.n, .string (str e.s), .slice so e.args.length cap] 27)).cell? ⟨w.heap.size, 3, none⟩ = some (.slice so e.args.length cap) by simp [go_sem])
   clear hb1
   go_wp2_with fail
   refine (MV.out _ HB1.out).mono ?_
   rintro r w2 ⟨rfl, hb⟩
   have HB2 := Lib.hid (btr HB1.out hb)
   replace k0 := keepc hb k0
   replace k1 := keepc hb k1
   replace k2 := keepc hb k2
   replace k3 := keepc hb k3
   clear hb
   go_wp2_with fail
   refine (MT.out _ HB2.out).mono ?_
   rintro r w3 ⟨ao, c, rfl, hc, hTB, hb⟩
   have HAO := Lib.hid (tok_some hTB HPO.out)
   have HB3 := Lib.hid (btr HB2.out hb)
   replace k0 := keepc hb k0
   replace k1 := keepc hb k1
   replace k2 := keepc hb k2
   replace k3 := keepc hb k3
   obtain ⟨b, off, rfl, hbl, _⟩ := hTB 0 HPO.out
   have HTB := Lib.hid hTB
   have K := Lib.hid (show w3.cell? ⟨w.heap.size, 0, none⟩ = some (.int .i64 e.op) ∧ w3.cell? ⟨w.heap.size, 1, none⟩ = some (.int .i64 e.n) ∧ w3.cell? ⟨w.heap.size, 2, none⟩ = some (.string (str e.s)) ∧ w3.cell? ⟨w.heap.size, 3, none⟩ = some (.slice so e.args.length cap) from ⟨k0, k1, k2, k3⟩)
   have hl3 : w.heap.size < w3.heap.size := World.block_lt_of_cell? _ _ k0
   have HL3 := Lib.hid hl3
   have HC := Lib.hid hc
   have CL := Lib.hid (fun i W (hW : Below w3.heap.size w3 W) (hi : i < B.length) h40 => mclosing (some ⟨b, off, none⟩) B c i W (HTB.out.keep hW) HB.out hi h40 (by have := HN.out; omega))
   rw [HN.out] at CL
   clear hb hTB k0 k1 k2 k3 hl3
   go_wp2_with fail
   go_loopw [5] (fun x wr => ∃ (i : Nat), i ≤ n ∧ x = .int .i64 (i : Int) ∧ Below w3.heap.size w3 wr) (fun x _ => n - (RowKit.intOf x).toNat)
   case atStart => exact ⟨0, by omega, rfl, bref _⟩
   case round =>
    obtain ⟨i, hin, rfl, hB⟩ := hrel
    have HBr := Lib.hid hB
    clear hB
    by_cases hlt : i < n
    rotate_left
    ·have he : i = n := by omega
     subst he
     have HBw := Lib.hid (HB3.out.trans (HBr.out.mono (by have := HB3.out.size; omega)))
     go_wp2_with fail
     refine (LV.out _ HBw.out).mono ?_
     rintro r w9 ⟨rfl, hb9⟩
     have HB9 := Lib.hid (btr HBw.out hb9)
     clear hb9
     go_wp2_with fail
     go_ret
     exact ⟨rfl, HB9.out⟩
    ·have hiz : (i : Int) < (n : Int) := by omega
     have hT := HTB.out.keep HBr.out
     obtain ⟨b', off', eq, _, c0, c1, c2⟩ := hT i (by rw [HN.out]; exact hlt)
     cases eq
     obtain ⟨u, hu⟩ : ∃ u, B.getD i T0 = u := ⟨_, rfl⟩
     have HU := Lib.hid hu
     rw [hu] at c0 c1 c2
     obtain ⟨uk, ul, ux⟩ := u
     simp only at c0 c1 c2
     clear hu
     have HBw := Lib.hid (HB3.out.trans (HBr.out.mono (by have := HB3.out.size; omega)))
     by_cases hx : ux = [40]
     rotate_left
     ·have d1 : ((str ux).toList == [40]) = false := by rw [toList_str]; exact beq_eq_false_iff_ne.2 hx
      have d3 : ¬ (str ux).toList = [40] := by rw [toList_str]; exact hx
      clear hx
      go_wp2_with fail
      go_roundw
      case rel => exact ⟨i + 1, by omega, by go_num, HBr.out⟩
      case measure => simp [RowKit.intOf]; omega
     ·subst hx
      have c2' : wr.cell? ⟨b, off + i * 3 + 2, none⟩ = some (.string ⟨#[40]⟩) := c2
      have H40 : Hid ((B.getD i T0).2.2 = [40]) := Lib.hid (by rw [HU.out])
      clear c2
      by_cases hi0 : i = 0
      ·subst hi0
       go_wp2_with fail
       refine (CL.out 0 wr HBr.out (by omega) H40.out).mono ?_
       rintro r w4 ⟨k, rfl, hik, hkn, hw4⟩
       subst hw4
       have HIK := Lib.hid (show 0 < k ∧ k < n from ⟨hik, hkn⟩)
       have hkI : ¬ ((k : Int) ≤ (0 : Int)) := by omega
       have hcI : (n : Int) ≤ (c : Int) := by have := HC.out; omega
       have j1 : (0 : Int) ≤ (c : Int) := by omega
       have j2 : (k : Int) ≤ (c : Int) := by omega
       have j5 : (k : Int) + 1 ≤ (n : Int) := by omega
       have j6 : (k : Int) + 1 ≤ (c : Int) := by omega
       obtain ⟨P, hP0⟩ : ∃ P, 0 + 1 = P := ⟨_, rfl⟩
       have HP0 := Lib.hid hP0
       have hP : IntKind.i64.wrap (1) = (P : Int) := by rw [IntKind.wrap_i64]; omega
       have hpk : 0 ≤ (P : Int) ∧ (P : Int) ≤ (k : Int) := by omega
       have hcP : ¬ c = P := by omega
       have hpi0 : 0 ≤ (0 : Int) := by omega
       have hO0 : OT wr.heap.size (.slice (some ⟨wr.heap.size, 0, none⟩) 0 0) [] (wr.alloc (.cells #[] 44)).drew := lit_empty wr
       have hT0 : TokensAt (some ⟨b, off, none⟩) B (wr.alloc (.cells #[] 44)).drew := hT.keep (bdr (bal (bref _) _))
       obtain ⟨v1, x1, hr1, hO1, hx1⟩ := app_run wr.heap.size _ [] hO0 (some ⟨b, off, none⟩) (B.take 0) 0 c (by rw [List.length_take, HN.out]; omega) (toks_take hT0 0) (fun h => by cases h) (by simp only [List.length_nil, List.length_take]; omega) (bdr (bal (bref _) _)).size
       have hB1 : Below wr.heap.size wr x1 := (bdr (bal (bref wr) _)).trans hx1
       have hT1 : TokensAt (some ⟨b, off, none⟩) B x1 := hT.keep hB1
       obtain ⟨v2, x2, hr2, hO2, hx2⟩ := app_run wr.heap.size _ _ hO1 (some ⟨b, off + P * 3, none⟩) ((B.drop P).take (k - P)) (k - P) (c - P) (by rw [List.length_take, List.length_drop, HN.out]; omega) (toks_take (toks_drop hT1 P) (k - P)) (fun h => by cases h) (by simp only [List.length_append, List.length_nil, List.length_take, List.length_drop]; omega) hB1.size
       have hB2' : Below wr.heap.size wr x2 := hB1.trans hx2
       have HR1 := Lib.hid hr1
       have HR2 := Lib.hid hr2
       have HO2 := Lib.hid hO2
       have HX2 : Hid (Below wr.heap.size wr x2) := Lib.hid hB2'
       have HX1 : Hid (Below wr.heap.size wr x1) := Lib.hid hB1
       clear hr1 hr2 hO0 hO1 hO2 hx1 hx2 hB1 hB2' hT0 hT1 hT hP0 hik hkn c0 c1
       go_wp2_with fail
       refine wp_region_held_drew (S := (fun W => Below wr.heap.size wr W)) (by kernel_rfl) (bdr (bref _)) (fun hH0 => ?_)
       refine wpAnyH_take (i := 1) (oi := _) (v := ?_) rfl (by kernel_rfl) (by kernel_rfl) (by kernel_rfl) (fun _ _ _ h => h) (Or.inl ⟨?_, ?_⟩) hH0 ?_
       rotate_left
       ·kernel_rfl
       ·(intro W' _; go_simp; (try with_reducible rfl))
       (try simp only [List.getElem_toArray, List.getElem_cons_succ, List.getElem_cons_zero, Act.put, List.setIfInBounds_toArray, List.set_cons_succ, List.set_cons_zero])
       refine wpAnyH_take (i := 2) (oi := _) (v := ?_) rfl (by kernel_rfl) (by kernel_rfl) (by kernel_rfl) (fun _ _ _ h => h) (Or.inl ⟨?_, ?_⟩) hH0 ?_
       rotate_left
       ·kernel_rfl
       ·(intro W' _; go_simp; (try with_reducible rfl))
       (try simp only [List.getElem_toArray, List.getElem_cons_succ, List.getElem_cons_zero, Act.put, List.setIfInBounds_toArray, List.set_cons_succ, List.set_cons_zero])
       refine wpAnyH_take (i := 3) (oi := _) (v := ?_) rfl (by kernel_rfl) (by kernel_rfl) (by kernel_rfl) (fun _ _ _ h => h) (Or.inl ⟨?_, ?_⟩) hH0 ?_
       rotate_left
       ·kernel_rfl
       ·(intro W' _; go_simp; (try rw [if_pos hpi0]); (try with_reducible rfl))
       (try simp only [List.getElem_toArray, List.getElem_cons_succ, List.getElem_cons_zero, Act.put, List.setIfInBounds_toArray, List.set_cons_succ, List.set_cons_zero])
       refine wpAnyH_take (i := 5) (oi := _) (v := ?_) rfl (by kernel_rfl) (by kernel_rfl) (by kernel_rfl) (fun _ _ _ h => h) (Or.inl ⟨?_, ?_⟩) hH0 ?_
       rotate_left
       ·kernel_rfl
       ·(intro W' _; go_simp; (try with_reducible rfl))
       (try simp only [List.getElem_toArray, List.getElem_cons_succ, List.getElem_cons_zero, Act.put, List.setIfInBounds_toArray, List.set_cons_succ, List.set_cons_zero])
       refine wpAnyH_take (i := 6) (oi := _) (v := ?_) rfl (by kernel_rfl) (by kernel_rfl) (by kernel_rfl) (fun _ _ _ h => h) (Or.inl ⟨?_, ?_⟩) hH0 ?_
       rotate_left
       ·kernel_rfl
       ·(intro W' _; go_simp; (try with_reducible rfl))
       (try simp only [List.getElem_toArray, List.getElem_cons_succ, List.getElem_cons_zero, Act.put, List.setIfInBounds_toArray, List.set_cons_succ, List.set_cons_zero])
       refine wpAnyH_take (i := 7) (oi := _) (v := ?_) rfl (by kernel_rfl) (by kernel_rfl) (by kernel_rfl) (fun _ _ _ h => h) (Or.inl ⟨?_, ?_⟩) hH0 ?_
       rotate_left
       ·kernel_rfl
       ·(intro W' _; go_simp; (try with_reducible rfl))
       (try simp only [List.getElem_toArray, List.getElem_cons_succ, List.getElem_cons_zero, Act.put, List.setIfInBounds_toArray, List.set_cons_succ, List.set_cons_zero])
       refine wpAnyH_take (i := 8) (oi := _) (v := ?_) rfl (by kernel_rfl) (by kernel_rfl) (by kernel_rfl) (fun _ _ _ h => h) (Or.inl ⟨?_, ?_⟩) hH0 ?_
       rotate_left
       ·kernel_rfl
       ·(intro W' _; go_simp; (try with_reducible rfl))
       (try simp only [List.getElem_toArray, List.getElem_cons_succ, List.getElem_cons_zero, Act.put, List.setIfInBounds_toArray, List.set_cons_succ, List.set_cons_zero])
       refine wpAnyH_take (i := 9) (oi := _) (v := ?_) rfl (by kernel_rfl) (by kernel_rfl) (by kernel_rfl) (fun _ _ _ h => h) (Or.inl ⟨?_, ?_⟩) hH0 ?_
       rotate_left
       ·kernel_rfl
       ·(intro W' _; go_simp; (try simp only [hP, Int.toNat_natCast]); (try rw [if_pos hpk]); (try rw [if_neg hcP]); (try with_reducible rfl))
       (try simp only [List.getElem_toArray, List.getElem_cons_succ, List.getElem_cons_zero, Act.put, List.setIfInBounds_toArray, List.set_cons_succ, List.set_cons_zero])
       refine wpAnyH_ready (rs := [0]) (by kernel_rfl) (by simp) ?_
       refine AllReadyH.cons (o := _) rfl (fun K hK => ?_) AllReadyH.nil
       go_simp
       refine hK.out _ _ (bal hH0 _) (fun hH1 => ?_)
       clear hK K
       (try simp only [List.getElem_toArray, List.getElem_cons_succ, List.getElem_cons_zero, Act.put, List.setIfInBounds_toArray, List.set_cons_succ, List.set_cons_zero])
       refine wpAnyH_ready (rs := [4]) (by kernel_rfl) (by simp) ?_
       refine AllReadyH.cons (o := _) rfl (fun K hK => ?_) AllReadyH.nil
       rw [if_pos (by kernel_rfl)]
       unfold Oper.wp execOp
       simp only [List.getElem_toArray, List.getElem_cons_succ, List.getElem_cons_zero, resolve, invoke, builtin, Sem.run_bind, Sem.run_pure, Result.andThen_ok, List.map_toArray, List.map_cons, List.map_nil, Act.eval, Array.getD_eq_getD_getElem?, List.getElem?_toArray, List.getElem?_cons_succ, List.getElem?_cons_zero, Option.getD_some]
       rw [HR1.out]
       refine hK.out _ _ HX1.out (fun hH4 => ?_)
       clear hK K
       (try simp only [List.getElem_toArray, List.getElem_cons_succ, List.getElem_cons_zero, Act.put, List.setIfInBounds_toArray, List.set_cons_succ, List.set_cons_zero])
       refine wpAnyH_ready (rs := [10]) (by kernel_rfl) (by simp) ?_
       refine AllReadyH.cons (o := _) rfl (fun K hK => ?_) AllReadyH.nil
       rw [if_pos (by kernel_rfl)]
       unfold Oper.wp execOp
       simp only [List.getElem_toArray, List.getElem_cons_succ, List.getElem_cons_zero, resolve, invoke, builtin, Sem.run_bind, Sem.run_pure, Result.andThen_ok, List.map_toArray, List.map_cons, List.map_nil, Act.eval, Array.getD_eq_getD_getElem?, List.getElem?_toArray, List.getElem?_cons_succ, List.getElem?_cons_zero, Option.getD_some]
       rw [HR2.out]
       refine hK.out _ _ HX2.out (fun hH10 => ?_)
       clear hK K
       (try simp only [List.getElem_toArray, List.getElem_cons_succ, List.getElem_cons_zero, Act.put, List.setIfInBounds_toArray, List.set_cons_succ, List.set_cons_zero])
       refine wpAnyH_take (i := 11) (oi := _) (v := ?_) rfl (by kernel_rfl) (by kernel_rfl) (by kernel_rfl) (fun _ _ _ h => h) (Or.inl ⟨?_, ?_⟩) hH10 ?_
       rotate_left
       ·kernel_rfl
       ·(intro W' _; go_simp; (try with_reducible rfl))
       (try simp only [List.getElem_toArray, List.getElem_cons_succ, List.getElem_cons_zero, Act.put, List.setIfInBounds_toArray, List.set_cons_succ, List.set_cons_zero])
       refine wpAnyH_done (by kernel_rfl) ?_ _
       have HXw := Lib.hid (HBr.out.trans (HX2.out.mono HBr.out.size))
       have HT2 := Lib.hid (HTB.out.keep HXw.out)
       by_cases hck : c = k + 1
       ·subst hck
        obtain ⟨hnk, _⟩ : n = k + 1 ∧ True := ⟨by omega, trivial⟩
        subst hnk
        go_wp2_with (at_builtin; (refine wpList_app_toksn rfl (.tmp 77) (.tmp 81) rfl wr.heap.size v2 (([] ++ B.take 0) ++ (B.drop P).take (k - P)) rfl HO2.out (some ⟨b, off, none⟩) (B.drop (k + 1)) 0 0 (by rw [List.length_drop, HN.out]; try omega) rfl (by rw [show B.drop (k + 1) = [] from List.drop_eq_nil_of_le (by rw [HN.out]; omega)]; exact TokensAt.nil _ _) (fun h => by cases h) (by simp only [List.length_append, List.length_nil, List.length_take, List.length_drop]; have := HN.out; omega) HX2.out.size ?_); intro v3 x3 ox bx; have HO3 := Lib.hid ox; have HX3 : Hid (Below wr.heap.size wr x3) := Lib.hid (HX2.out.trans bx); obtain ⟨fa, fc, hv3, hfc, hFT, hfn⟩ := HO3.out.shape; obtain ⟨L, hL⟩ : ∃ L, (([] ++ B.take 0) ++ (B.drop P).take (k - P)) ++ B.drop (k + 1) = L := ⟨_, rfl⟩; have HLL := Lib.hid hL; rw [hL] at hv3 hFT; obtain ⟨nl, hnl⟩ : ∃ nl, L.length = nl := ⟨_, rfl⟩; have HNL := Lib.hid hnl; rw [hnl] at hv3; subst hv3; have HFT := Lib.hid hFT; clear ox bx hFT hfn hfc hL hnl)
        have HWO : Hid (L = without B 0 k) := Lib.hid (by rw [← HLL.out, List.nil_append, ← HP0.out]; rfl)
        obtain ⟨o, ho⟩ := total (L.drop 0) 0
        have hLn : L.length ≤ 6000 := by rw [← HLL.out]; simp only [List.length_append, List.length_nil, List.length_take, List.length_drop]; have := HN.out; omega
        have hLt : ∀ t ∈ L, t.2.2.length ≤ 1000000 := by
         intro t ht
         rw [HWO.out] at ht
         unfold without at ht
         rcases List.mem_append.1 ht with h | h
         ·rcases List.mem_append.1 h with h | h
          ·exact HB.out.long t (List.mem_of_mem_take h)
          ·exact HB.out.long t (List.mem_of_mem_drop (List.mem_of_mem_take h))
         ·exact HB.out.long t (List.mem_of_mem_drop h)
        have MP1 := fun W hW hT => MP.out fa fc L o W hW hT (by omega) hLt ho
        have HPS := Lib.hid (pO_small L 0 o)
        have HLA := Lib.hid (fun h1 h2 => last_no (e := e) (B := B) (i := 0) (k := k) HIK.out.1 (by rw [HN.out]; exact HIK.out.2) H40.out HFW.out HWO.out ho h1 h2)
        obtain ⟨p, hp⟩ : ∃ p, pO L 0 o = p := ⟨_, rfl⟩
        obtain ⟨px, pi, pe⟩ := p
        rw [show pO L ((0 : Nat) : Int) o = (px, pi, pe) from hp] at MP1
        rw [hp] at HPS HLA
        simp only [vx] at MP1
        rw [HNL.out] at MP1 HLA
        rw [show ((0 : Nat) : Int) = 0 from rfl] at MP1
        have MP1' := Lib.hid MP1
        clear MP1 hp ho hLn hLt
        have HX3w := Lib.hid (HBw.out.trans (HX3.out.mono HBw.out.size))
        go_wp2_with fail
        refine (MP1'.out _ HX3w.out HFT.out).mono ?_
        rintro r y1 ⟨sx, cx, rfl, hLx, hb⟩
        have HLX := Lib.hid hLx
        have HY1 := Lib.hid (HX3.out.trans (hb.mono HX3.out.size))
        have HY1w := Lib.hid (HX3w.out.trans (hb.mono HX3w.out.size))
        have HVX := Lib.hid (bx_vx y1 px sx cx)
        clear hb hLx
        by_cases hpe : pe = 0
        rotate_left
        ·have ge : (pe == 0) = false := by rw [beq_eq_false_iff_ne]; exact hpe
         clear hpe
         go_wp2_with fail
         go_roundw
         case rel => exact ⟨P, by have := HIK.out; have := HP0.out; omega, (by first | rfl | go_num), HBr.out.trans ((bal HY1.out _).mono HBr.out.size)⟩
         case measure => have := HIK.out; have := HP0.out; simp [RowKit.intOf]; omega
        ·subst hpe
         by_cases hpi : pi = (nl : Int)
         rotate_left
         ·have gi : (pi == (nl : Int)) = false := by rw [beq_eq_false_iff_ne]; exact hpi
          clear hpi
          go_wp2_with fail
          go_roundw
          case rel => exact ⟨P, by have := HIK.out; have := HP0.out; omega, (by first | rfl | go_num), HBr.out.trans ((bal HY1.out _).mono HBr.out.size)⟩
          case measure => have := HIK.out; have := HP0.out; simp [RowKit.intOf]; omega
         ·subst hpi
          have hne := HLA.out rfl rfl
          have HKy := fun W (hW : Below w3.heap.size w3 W) => (⟨keepc hW K.out.1, keepc hW K.out.2.1, keepc hW K.out.2.2.1, keepc hW K.out.2.2.2⟩ : _ ∧ _ ∧ _ ∧ _)
          have HYw := HBr.out.trans (HY1.out.mono HBr.out.size)
          obtain ⟨k0, k1, k2, k3⟩ := HKy y1 HYw
          have l4 : w.heap.size < y1.heap.size := World.block_lt_of_cell? _ _ k0
          obtain ⟨v0, v1, v2, v3, vf⟩ := HVX.out
          have RS0 := rsame px e sx so cx cap (y1.alloc (.cells #[.int .i64 px.op, .int .i64 px.n, .string (str px.s), .slice sx px.args.length cx] 27)) (by have := HPS.out; omega) (HLX.out.1.keep (bal (bref _) _)) (HLE.out.1.keep (bal HY1w.out _))
          rw [same_no hne] at RS0
          have RS := Lib.hid RS0
          clear RS0 HKy HYw
          go_wp2_with fail
          refine RS.out.mono ?_
          rintro r y2 ⟨rfl, hb⟩
          have HY2 := Lib.hid ((bal HY1.out _).trans (hb.mono (by have := HY1.out.size; simp; omega)))
          clear hb v0 v1 v2 v3 vf k0 k1 k2 k3
          go_wp2_with fail
          go_roundw
          case rel => exact ⟨P, by have := HIK.out; have := HP0.out; omega, (by first | rfl | go_num), HBr.out.trans (HY2.out.mono HBr.out.size)⟩
          case measure => have := HIK.out; have := HP0.out; simp [RowKit.intOf]; omega
       ·go_wp2_with (at_builtin; (refine wpList_app_toksn rfl (.tmp 77) (.tmp 81) rfl wr.heap.size v2 (([] ++ B.take 0) ++ (B.drop P).take (k - P)) rfl HO2.out (some ⟨b, off + (k + 1) * 3, none⟩) (B.drop (k + 1)) (n - (k + 1)) (c - (k + 1)) (by rw [List.length_drop, HN.out]; try omega) rfl (toks_drop HT2.out (k + 1)) (fun h => by cases h) (by simp only [List.length_append, List.length_nil, List.length_take, List.length_drop]; have := HN.out; omega) HX2.out.size ?_); intro v3 x3 ox bx; have HO3 := Lib.hid ox; have HX3 : Hid (Below wr.heap.size wr x3) := Lib.hid (HX2.out.trans bx); obtain ⟨fa, fc, hv3, hfc, hFT, hfn⟩ := HO3.out.shape; obtain ⟨L, hL⟩ : ∃ L, (([] ++ B.take 0) ++ (B.drop P).take (k - P)) ++ B.drop (k + 1) = L := ⟨_, rfl⟩; have HLL := Lib.hid hL; rw [hL] at hv3 hFT; obtain ⟨nl, hnl⟩ : ∃ nl, L.length = nl := ⟨_, rfl⟩; have HNL := Lib.hid hnl; rw [hnl] at hv3; subst hv3; have HFT := Lib.hid hFT; clear ox bx hFT hfn hfc hL hnl)
        have HWO : Hid (L = without B 0 k) := Lib.hid (by rw [← HLL.out, List.nil_append, ← HP0.out]; rfl)
        obtain ⟨o, ho⟩ := total (L.drop 0) 0
        have hLn : L.length ≤ 6000 := by rw [← HLL.out]; simp only [List.length_append, List.length_nil, List.length_take, List.length_drop]; have := HN.out; omega
        have hLt : ∀ t ∈ L, t.2.2.length ≤ 1000000 := by
         intro t ht
         rw [HWO.out] at ht
         unfold without at ht
         rcases List.mem_append.1 ht with h | h
         ·rcases List.mem_append.1 h with h | h
          ·exact HB.out.long t (List.mem_of_mem_take h)
          ·exact HB.out.long t (List.mem_of_mem_drop (List.mem_of_mem_take h))
         ·exact HB.out.long t (List.mem_of_mem_drop h)
        have MP1 := fun W hW hT => MP.out fa fc L o W hW hT (by omega) hLt ho
        have HPS := Lib.hid (pO_small L 0 o)
        have HLA := Lib.hid (fun h1 h2 => last_no (e := e) (B := B) (i := 0) (k := k) HIK.out.1 (by rw [HN.out]; exact HIK.out.2) H40.out HFW.out HWO.out ho h1 h2)
        obtain ⟨p, hp⟩ : ∃ p, pO L 0 o = p := ⟨_, rfl⟩
        obtain ⟨px, pi, pe⟩ := p
        rw [show pO L ((0 : Nat) : Int) o = (px, pi, pe) from hp] at MP1
        rw [hp] at HPS HLA
        simp only [vx] at MP1
        rw [HNL.out] at MP1 HLA
        rw [show ((0 : Nat) : Int) = 0 from rfl] at MP1
        have MP1' := Lib.hid MP1
        clear MP1 hp ho hLn hLt
        have HX3w := Lib.hid (HBw.out.trans (HX3.out.mono HBw.out.size))
        go_wp2_with fail
        refine (MP1'.out _ HX3w.out HFT.out).mono ?_
        rintro r y1 ⟨sx, cx, rfl, hLx, hb⟩
        have HLX := Lib.hid hLx
        have HY1 := Lib.hid (HX3.out.trans (hb.mono HX3.out.size))
        have HY1w := Lib.hid (HX3w.out.trans (hb.mono HX3w.out.size))
        have HVX := Lib.hid (bx_vx y1 px sx cx)
        clear hb hLx
        by_cases hpe : pe = 0
        rotate_left
        ·have ge : (pe == 0) = false := by rw [beq_eq_false_iff_ne]; exact hpe
         clear hpe
         go_wp2_with fail
         go_roundw
         case rel => exact ⟨P, by have := HIK.out; have := HP0.out; omega, (by first | rfl | go_num), HBr.out.trans ((bal HY1.out _).mono HBr.out.size)⟩
         case measure => have := HIK.out; have := HP0.out; simp [RowKit.intOf]; omega
        ·subst hpe
         by_cases hpi : pi = (nl : Int)
         rotate_left
         ·have gi : (pi == (nl : Int)) = false := by rw [beq_eq_false_iff_ne]; exact hpi
          clear hpi
          go_wp2_with fail
          go_roundw
          case rel => exact ⟨P, by have := HIK.out; have := HP0.out; omega, (by first | rfl | go_num), HBr.out.trans ((bal HY1.out _).mono HBr.out.size)⟩
          case measure => have := HIK.out; have := HP0.out; simp [RowKit.intOf]; omega
         ·subst hpi
          have hne := HLA.out rfl rfl
          have HKy := fun W (hW : Below w3.heap.size w3 W) => (⟨keepc hW K.out.1, keepc hW K.out.2.1, keepc hW K.out.2.2.1, keepc hW K.out.2.2.2⟩ : _ ∧ _ ∧ _ ∧ _)
          have HYw := HBr.out.trans (HY1.out.mono HBr.out.size)
          obtain ⟨k0, k1, k2, k3⟩ := HKy y1 HYw
          have l4 : w.heap.size < y1.heap.size := World.block_lt_of_cell? _ _ k0
          obtain ⟨v0, v1, v2, v3, vf⟩ := HVX.out
          have RS0 := rsame px e sx so cx cap (y1.alloc (.cells #[.int .i64 px.op, .int .i64 px.n, .string (str px.s), .slice sx px.args.length cx] 27)) (by have := HPS.out; omega) (HLX.out.1.keep (bal (bref _) _)) (HLE.out.1.keep (bal HY1w.out _))
          rw [same_no hne] at RS0
          have RS := Lib.hid RS0
          clear RS0 HKy HYw
          go_wp2_with fail
          refine RS.out.mono ?_
          rintro r y2 ⟨rfl, hb⟩
          have HY2 := Lib.hid ((bal HY1.out _).trans (hb.mono (by have := HY1.out.size; simp; omega)))
          clear hb v0 v1 v2 v3 vf k0 k1 k2 k3
          go_wp2_with fail
          go_roundw
          case rel => exact ⟨P, by have := HIK.out; have := HP0.out; omega, (by first | rfl | go_num), HBr.out.trans (HY2.out.mono HBr.out.size)⟩
          case measure => have := HIK.out; have := HP0.out; simp [RowKit.intOf]; omega
      ·obtain ⟨q, hq⟩ : ∃ q, i = q + 1 := ⟨i - 1, by omega⟩
       subst hq
       obtain ⟨b2, off2, eq2, _, e0, e1, e2⟩ := hT q (by rw [HN.out]; omega)
       cases eq2
       obtain ⟨u2, hu2⟩ : ∃ u2, B.getD q T0 = u2 := ⟨_, rfl⟩
       rw [hu2] at e0 e1 e2
       obtain ⟨vk, vl, vx'⟩ := u2
       simp only at e0 e1 e2
       clear hu2
       by_cases hmin : vx' = wMin
       ·subst hmin
        have e2' : wr.cell? ⟨b, off + q * 3 + 2, none⟩ = some (.string ⟨#[109, 105, 110]⟩) := e2
        clear e2
        go_wp2_with fail
        go_roundw
        case rel => exact ⟨q + 1 + 1, by omega, by go_num, HBr.out⟩
        case measure => simp [RowKit.intOf]; omega
       ·by_cases hmax : vx' = wMax
        ·subst hmax
         have e2' : wr.cell? ⟨b, off + q * 3 + 2, none⟩ = some (.string ⟨#[109, 97, 120]⟩) := e2
         clear e2
         go_wp2_with fail
         go_roundw
         case rel => exact ⟨q + 1 + 1, by omega, by go_num, HBr.out⟩
         case measure => simp [RowKit.intOf]; omega
        ·have f1 : ((str vx').toList == [109, 105, 110]) = false := by rw [toList_str]; exact beq_eq_false_iff_ne.2 hmin
         have f2 : ((str vx').toList == [109, 97, 120]) = false := by rw [toList_str]; exact beq_eq_false_iff_ne.2 hmax
         have f3 : ¬ (str vx').toList = [109, 105, 110] := by rw [toList_str]; exact hmin
         have f4 : ¬ (str vx').toList = [109, 97, 120] := by rw [toList_str]; exact hmax
         clear hmin hmax
         go_wp2_with fail
         refine (CL.out (q + 1) wr HBr.out (by omega) H40.out).mono ?_
         rintro r w4 ⟨k, rfl, hik, hkn, hw4⟩
         subst hw4
         have HIK := Lib.hid (show (q + 1) < k ∧ k < n from ⟨hik, hkn⟩)
         have hkI : ¬ ((k : Int) ≤ ((q + 1) : Int)) := by omega
         have hcI : (n : Int) ≤ (c : Int) := by have := HC.out; omega
         have j1 : ((q + 1) : Int) ≤ (c : Int) := by omega
         have j2 : (k : Int) ≤ (c : Int) := by omega
         have j5 : (k : Int) + 1 ≤ (n : Int) := by omega
         have j6 : (k : Int) + 1 ≤ (c : Int) := by omega
         obtain ⟨P, hP0⟩ : ∃ P, (q + 1) + 1 = P := ⟨_, rfl⟩
         have HP0 := Lib.hid hP0
         have hP : IntKind.i64.wrap (((q + 1) : Int) + 1) = (P : Int) := by rw [IntKind.wrap_i64]; omega
         have hpk : 0 ≤ (P : Int) ∧ (P : Int) ≤ (k : Int) := by omega
         have hcP : ¬ c = P := by omega
         have hpi0 : 0 ≤ (↑q + 1 : Int) := by omega
         have hO0 : OT wr.heap.size (.slice (some ⟨wr.heap.size, 0, none⟩) 0 0) [] (wr.alloc (.cells #[] 44)).drew := lit_empty wr
         have hT0 : TokensAt (some ⟨b, off, none⟩) B (wr.alloc (.cells #[] 44)).drew := hT.keep (bdr (bal (bref _) _))
         obtain ⟨v1, x1, hr1, hO1, hx1⟩ := app_run wr.heap.size _ [] hO0 (some ⟨b, off, none⟩) (B.take (q + 1)) (q + 1) c (by rw [List.length_take, HN.out]; omega) (toks_take hT0 (q + 1)) (fun h => by cases h) (by simp only [List.length_nil, List.length_take]; omega) (bdr (bal (bref _) _)).size
         have hB1 : Below wr.heap.size wr x1 := (bdr (bal (bref wr) _)).trans hx1
         have hT1 : TokensAt (some ⟨b, off, none⟩) B x1 := hT.keep hB1
         obtain ⟨v2, x2, hr2, hO2, hx2⟩ := app_run wr.heap.size _ _ hO1 (some ⟨b, off + P * 3, none⟩) ((B.drop P).take (k - P)) (k - P) (c - P) (by rw [List.length_take, List.length_drop, HN.out]; omega) (toks_take (toks_drop hT1 P) (k - P)) (fun h => by cases h) (by simp only [List.length_append, List.length_nil, List.length_take, List.length_drop]; omega) hB1.size
         have hB2' : Below wr.heap.size wr x2 := hB1.trans hx2
         have HR1 := Lib.hid hr1
         have HR2 := Lib.hid hr2
         have HO2 := Lib.hid hO2
         have HX2 : Hid (Below wr.heap.size wr x2) := Lib.hid hB2'
         have HX1 : Hid (Below wr.heap.size wr x1) := Lib.hid hB1
         clear hr1 hr2 hO0 hO1 hO2 hx1 hx2 hB1 hB2' hT0 hT1 hT hP0 hik hkn c0 c1
         go_wp2_with fail
         refine wp_region_held_drew (S := (fun W => Below wr.heap.size wr W)) (by kernel_rfl) (bdr (bref _)) (fun hH0 => ?_)
         refine wpAnyH_take (i := 1) (oi := _) (v := ?_) rfl (by kernel_rfl) (by kernel_rfl) (by kernel_rfl) (fun _ _ _ h => h) (Or.inl ⟨?_, ?_⟩) hH0 ?_
         rotate_left
         ·kernel_rfl
         ·(intro W' _; go_simp; (try with_reducible rfl))
         (try simp only [List.getElem_toArray, List.getElem_cons_succ, List.getElem_cons_zero, Act.put, List.setIfInBounds_toArray, List.set_cons_succ, List.set_cons_zero])
         refine wpAnyH_take (i := 2) (oi := _) (v := ?_) rfl (by kernel_rfl) (by kernel_rfl) (by kernel_rfl) (fun _ _ _ h => h) (Or.inl ⟨?_, ?_⟩) hH0 ?_
         rotate_left
         ·kernel_rfl
         ·(intro W' _; go_simp; (try with_reducible rfl))
         (try simp only [List.getElem_toArray, List.getElem_cons_succ, List.getElem_cons_zero, Act.put, List.setIfInBounds_toArray, List.set_cons_succ, List.set_cons_zero])
         refine wpAnyH_take (i := 3) (oi := _) (v := ?_) rfl (by kernel_rfl) (by kernel_rfl) (by kernel_rfl) (fun _ _ _ h => h) (Or.inl ⟨?_, ?_⟩) hH0 ?_
         rotate_left
         ·kernel_rfl
         ·(intro W' _; go_simp; (try rw [if_pos hpi0]); (try with_reducible rfl))
         (try simp only [List.getElem_toArray, List.getElem_cons_succ, List.getElem_cons_zero, Act.put, List.setIfInBounds_toArray, List.set_cons_succ, List.set_cons_zero])
         refine wpAnyH_take (i := 5) (oi := _) (v := ?_) rfl (by kernel_rfl) (by kernel_rfl) (by kernel_rfl) (fun _ _ _ h => h) (Or.inl ⟨?_, ?_⟩) hH0 ?_
         rotate_left
         ·kernel_rfl
         ·(intro W' _; go_simp; (try with_reducible rfl))
         (try simp only [List.getElem_toArray, List.getElem_cons_succ, List.getElem_cons_zero, Act.put, List.setIfInBounds_toArray, List.set_cons_succ, List.set_cons_zero])
         refine wpAnyH_take (i := 6) (oi := _) (v := ?_) rfl (by kernel_rfl) (by kernel_rfl) (by kernel_rfl) (fun _ _ _ h => h) (Or.inl ⟨?_, ?_⟩) hH0 ?_
         rotate_left
         ·kernel_rfl
         ·(intro W' _; go_simp; (try with_reducible rfl))
         (try simp only [List.getElem_toArray, List.getElem_cons_succ, List.getElem_cons_zero, Act.put, List.setIfInBounds_toArray, List.set_cons_succ, List.set_cons_zero])
         refine wpAnyH_take (i := 7) (oi := _) (v := ?_) rfl (by kernel_rfl) (by kernel_rfl) (by kernel_rfl) (fun _ _ _ h => h) (Or.inl ⟨?_, ?_⟩) hH0 ?_
         rotate_left
         ·kernel_rfl
         ·(intro W' _; go_simp; (try with_reducible rfl))
         (try simp only [List.getElem_toArray, List.getElem_cons_succ, List.getElem_cons_zero, Act.put, List.setIfInBounds_toArray, List.set_cons_succ, List.set_cons_zero])
         refine wpAnyH_take (i := 8) (oi := _) (v := ?_) rfl (by kernel_rfl) (by kernel_rfl) (by kernel_rfl) (fun _ _ _ h => h) (Or.inl ⟨?_, ?_⟩) hH0 ?_
         rotate_left
         ·kernel_rfl
         ·(intro W' _; go_simp; (try with_reducible rfl))
         (try simp only [List.getElem_toArray, List.getElem_cons_succ, List.getElem_cons_zero, Act.put, List.setIfInBounds_toArray, List.set_cons_succ, List.set_cons_zero])
         refine wpAnyH_take (i := 9) (oi := _) (v := ?_) rfl (by kernel_rfl) (by kernel_rfl) (by kernel_rfl) (fun _ _ _ h => h) (Or.inl ⟨?_, ?_⟩) hH0 ?_
         rotate_left
         ·kernel_rfl
         ·(intro W' _; go_simp; (try simp only [hP, Int.toNat_natCast]); (try rw [if_pos hpk]); (try rw [if_neg hcP]); (try with_reducible rfl))
         (try simp only [List.getElem_toArray, List.getElem_cons_succ, List.getElem_cons_zero, Act.put, List.setIfInBounds_toArray, List.set_cons_succ, List.set_cons_zero])
         refine wpAnyH_ready (rs := [0]) (by kernel_rfl) (by simp) ?_
         refine AllReadyH.cons (o := _) rfl (fun K hK => ?_) AllReadyH.nil
         go_simp
         refine hK.out _ _ (bal hH0 _) (fun hH1 => ?_)
         clear hK K
         (try simp only [List.getElem_toArray, List.getElem_cons_succ, List.getElem_cons_zero, Act.put, List.setIfInBounds_toArray, List.set_cons_succ, List.set_cons_zero])
         refine wpAnyH_ready (rs := [4]) (by kernel_rfl) (by simp) ?_
         refine AllReadyH.cons (o := _) rfl (fun K hK => ?_) AllReadyH.nil
         rw [if_pos (by kernel_rfl)]
         unfold Oper.wp execOp
         simp only [List.getElem_toArray, List.getElem_cons_succ, List.getElem_cons_zero, resolve, invoke, builtin, Sem.run_bind, Sem.run_pure, Result.andThen_ok, List.map_toArray, List.map_cons, List.map_nil, Act.eval, Array.getD_eq_getD_getElem?, List.getElem?_toArray, List.getElem?_cons_succ, List.getElem?_cons_zero, Option.getD_some]
         rw [HR1.out]
         refine hK.out _ _ HX1.out (fun hH4 => ?_)
         clear hK K
         (try simp only [List.getElem_toArray, List.getElem_cons_succ, List.getElem_cons_zero, Act.put, List.setIfInBounds_toArray, List.set_cons_succ, List.set_cons_zero])
         refine wpAnyH_ready (rs := [10]) (by kernel_rfl) (by simp) ?_
         refine AllReadyH.cons (o := _) rfl (fun K hK => ?_) AllReadyH.nil
         rw [if_pos (by kernel_rfl)]
         unfold Oper.wp execOp
         simp only [List.getElem_toArray, List.getElem_cons_succ, List.getElem_cons_zero, resolve, invoke, builtin, Sem.run_bind, Sem.run_pure, Result.andThen_ok, List.map_toArray, List.map_cons, List.map_nil, Act.eval, Array.getD_eq_getD_getElem?, List.getElem?_toArray, List.getElem?_cons_succ, List.getElem?_cons_zero, Option.getD_some]
         rw [HR2.out]
         refine hK.out _ _ HX2.out (fun hH10 => ?_)
         clear hK K
         (try simp only [List.getElem_toArray, List.getElem_cons_succ, List.getElem_cons_zero, Act.put, List.setIfInBounds_toArray, List.set_cons_succ, List.set_cons_zero])
         refine wpAnyH_take (i := 11) (oi := _) (v := ?_) rfl (by kernel_rfl) (by kernel_rfl) (by kernel_rfl) (fun _ _ _ h => h) (Or.inl ⟨?_, ?_⟩) hH10 ?_
         rotate_left
         ·kernel_rfl
         ·(intro W' _; go_simp; (try with_reducible rfl))
         (try simp only [List.getElem_toArray, List.getElem_cons_succ, List.getElem_cons_zero, Act.put, List.setIfInBounds_toArray, List.set_cons_succ, List.set_cons_zero])
         refine wpAnyH_done (by kernel_rfl) ?_ _
         have HXw := Lib.hid (HBr.out.trans (HX2.out.mono HBr.out.size))
         have HT2 := Lib.hid (HTB.out.keep HXw.out)
         by_cases hck : c = k + 1
         ·subst hck
          obtain ⟨hnk, _⟩ : n = k + 1 ∧ True := ⟨by omega, trivial⟩
          subst hnk
          go_wp2_with (at_builtin; (refine wpList_app_toksn rfl (.tmp 77) (.tmp 81) rfl wr.heap.size v2 (([] ++ B.take (q + 1)) ++ (B.drop P).take (k - P)) rfl HO2.out (some ⟨b, off, none⟩) (B.drop (k + 1)) 0 0 (by rw [List.length_drop, HN.out]; try omega) rfl (by rw [show B.drop (k + 1) = [] from List.drop_eq_nil_of_le (by rw [HN.out]; omega)]; exact TokensAt.nil _ _) (fun h => by cases h) (by simp only [List.length_append, List.length_nil, List.length_take, List.length_drop]; have := HN.out; omega) HX2.out.size ?_); intro v3 x3 ox bx; have HO3 := Lib.hid ox; have HX3 : Hid (Below wr.heap.size wr x3) := Lib.hid (HX2.out.trans bx); obtain ⟨fa, fc, hv3, hfc, hFT, hfn⟩ := HO3.out.shape; obtain ⟨L, hL⟩ : ∃ L, (([] ++ B.take (q + 1)) ++ (B.drop P).take (k - P)) ++ B.drop (k + 1) = L := ⟨_, rfl⟩; have HLL := Lib.hid hL; rw [hL] at hv3 hFT; obtain ⟨nl, hnl⟩ : ∃ nl, L.length = nl := ⟨_, rfl⟩; have HNL := Lib.hid hnl; rw [hnl] at hv3; subst hv3; have HFT := Lib.hid hFT; clear ox bx hFT hfn hfc hL hnl)
          have HWO : Hid (L = without B (q + 1) k) := Lib.hid (by rw [← HLL.out, List.nil_append, ← HP0.out]; rfl)
          obtain ⟨o, ho⟩ := total (L.drop 0) 0
          have hLn : L.length ≤ 6000 := by rw [← HLL.out]; simp only [List.length_append, List.length_nil, List.length_take, List.length_drop]; have := HN.out; omega
          have hLt : ∀ t ∈ L, t.2.2.length ≤ 1000000 := by
           intro t ht
           rw [HWO.out] at ht
           unfold without at ht
           rcases List.mem_append.1 ht with h | h
           ·rcases List.mem_append.1 h with h | h
            ·exact HB.out.long t (List.mem_of_mem_take h)
            ·exact HB.out.long t (List.mem_of_mem_drop (List.mem_of_mem_take h))
           ·exact HB.out.long t (List.mem_of_mem_drop h)
          have MP1 := fun W hW hT => MP.out fa fc L o W hW hT (by omega) hLt ho
          have HPS := Lib.hid (pO_small L 0 o)
          have HLA := Lib.hid (fun h1 h2 => last_no (e := e) (B := B) (i := (q + 1)) (k := k) HIK.out.1 (by rw [HN.out]; exact HIK.out.2) H40.out HFW.out HWO.out ho h1 h2)
          obtain ⟨p, hp⟩ : ∃ p, pO L 0 o = p := ⟨_, rfl⟩
          obtain ⟨px, pi, pe⟩ := p
          rw [show pO L ((0 : Nat) : Int) o = (px, pi, pe) from hp] at MP1
          rw [hp] at HPS HLA
          simp only [vx] at MP1
          rw [HNL.out] at MP1 HLA
          rw [show ((0 : Nat) : Int) = 0 from rfl] at MP1
          have MP1' := Lib.hid MP1
          clear MP1 hp ho hLn hLt
          have HX3w := Lib.hid (HBw.out.trans (HX3.out.mono HBw.out.size))
          go_wp2_with fail
          refine (MP1'.out _ HX3w.out HFT.out).mono ?_
          rintro r y1 ⟨sx, cx, rfl, hLx, hb⟩
          have HLX := Lib.hid hLx
          have HY1 := Lib.hid (HX3.out.trans (hb.mono HX3.out.size))
          have HY1w := Lib.hid (HX3w.out.trans (hb.mono HX3w.out.size))
          have HVX := Lib.hid (bx_vx y1 px sx cx)
          clear hb hLx
          by_cases hpe : pe = 0
          rotate_left
          ·have ge : (pe == 0) = false := by rw [beq_eq_false_iff_ne]; exact hpe
           clear hpe
           go_wp2_with fail
           go_roundw
           case rel => exact ⟨P, by have := HIK.out; have := HP0.out; omega, (by first | rfl | go_num), HBr.out.trans ((bal HY1.out _).mono HBr.out.size)⟩
           case measure => have := HIK.out; have := HP0.out; simp [RowKit.intOf]; omega
          ·subst hpe
           by_cases hpi : pi = (nl : Int)
           rotate_left
           ·have gi : (pi == (nl : Int)) = false := by rw [beq_eq_false_iff_ne]; exact hpi
            clear hpi
            go_wp2_with fail
            go_roundw
            case rel => exact ⟨P, by have := HIK.out; have := HP0.out; omega, (by first | rfl | go_num), HBr.out.trans ((bal HY1.out _).mono HBr.out.size)⟩
            case measure => have := HIK.out; have := HP0.out; simp [RowKit.intOf]; omega
           ·subst hpi
            have hne := HLA.out rfl rfl
            have HKy := fun W (hW : Below w3.heap.size w3 W) => (⟨keepc hW K.out.1, keepc hW K.out.2.1, keepc hW K.out.2.2.1, keepc hW K.out.2.2.2⟩ : _ ∧ _ ∧ _ ∧ _)
            have HYw := HBr.out.trans (HY1.out.mono HBr.out.size)
            obtain ⟨k0, k1, k2, k3⟩ := HKy y1 HYw
            have l4 : w.heap.size < y1.heap.size := World.block_lt_of_cell? _ _ k0
            obtain ⟨v0, v1, v2, v3, vf⟩ := HVX.out
            have RS0 := rsame px e sx so cx cap (y1.alloc (.cells #[.int .i64 px.op, .int .i64 px.n, .string (str px.s), .slice sx px.args.length cx] 27)) (by have := HPS.out; omega) (HLX.out.1.keep (bal (bref _) _)) (HLE.out.1.keep (bal HY1w.out _))
            rw [same_no hne] at RS0
            have RS := Lib.hid RS0
            clear RS0 HKy HYw
            go_wp2_with fail
            refine RS.out.mono ?_
            rintro r y2 ⟨rfl, hb⟩
            have HY2 := Lib.hid ((bal HY1.out _).trans (hb.mono (by have := HY1.out.size; simp; omega)))
            clear hb v0 v1 v2 v3 vf k0 k1 k2 k3
            go_wp2_with fail
            go_roundw
            case rel => exact ⟨P, by have := HIK.out; have := HP0.out; omega, (by first | rfl | go_num), HBr.out.trans (HY2.out.mono HBr.out.size)⟩
            case measure => have := HIK.out; have := HP0.out; simp [RowKit.intOf]; omega
         ·go_wp2_with (at_builtin; (refine wpList_app_toksn rfl (.tmp 77) (.tmp 81) rfl wr.heap.size v2 (([] ++ B.take (q + 1)) ++ (B.drop P).take (k - P)) rfl HO2.out (some ⟨b, off + (k + 1) * 3, none⟩) (B.drop (k + 1)) (n - (k + 1)) (c - (k + 1)) (by rw [List.length_drop, HN.out]; try omega) rfl (toks_drop HT2.out (k + 1)) (fun h => by cases h) (by simp only [List.length_append, List.length_nil, List.length_take, List.length_drop]; have := HN.out; omega) HX2.out.size ?_); intro v3 x3 ox bx; have HO3 := Lib.hid ox; have HX3 : Hid (Below wr.heap.size wr x3) := Lib.hid (HX2.out.trans bx); obtain ⟨fa, fc, hv3, hfc, hFT, hfn⟩ := HO3.out.shape; obtain ⟨L, hL⟩ : ∃ L, (([] ++ B.take (q + 1)) ++ (B.drop P).take (k - P)) ++ B.drop (k + 1) = L := ⟨_, rfl⟩; have HLL := Lib.hid hL; rw [hL] at hv3 hFT; obtain ⟨nl, hnl⟩ : ∃ nl, L.length = nl := ⟨_, rfl⟩; have HNL := Lib.hid hnl; rw [hnl] at hv3; subst hv3; have HFT := Lib.hid hFT; clear ox bx hFT hfn hfc hL hnl)
          have HWO : Hid (L = without B (q + 1) k) := Lib.hid (by rw [← HLL.out, List.nil_append, ← HP0.out]; rfl)
          obtain ⟨o, ho⟩ := total (L.drop 0) 0
          have hLn : L.length ≤ 6000 := by rw [← HLL.out]; simp only [List.length_append, List.length_nil, List.length_take, List.length_drop]; have := HN.out; omega
          have hLt : ∀ t ∈ L, t.2.2.length ≤ 1000000 := by
           intro t ht
           rw [HWO.out] at ht
           unfold without at ht
           rcases List.mem_append.1 ht with h | h
           ·rcases List.mem_append.1 h with h | h
            ·exact HB.out.long t (List.mem_of_mem_take h)
            ·exact HB.out.long t (List.mem_of_mem_drop (List.mem_of_mem_take h))
           ·exact HB.out.long t (List.mem_of_mem_drop h)
          have MP1 := fun W hW hT => MP.out fa fc L o W hW hT (by omega) hLt ho
          have HPS := Lib.hid (pO_small L 0 o)
          have HLA := Lib.hid (fun h1 h2 => last_no (e := e) (B := B) (i := (q + 1)) (k := k) HIK.out.1 (by rw [HN.out]; exact HIK.out.2) H40.out HFW.out HWO.out ho h1 h2)
          obtain ⟨p, hp⟩ : ∃ p, pO L 0 o = p := ⟨_, rfl⟩
          obtain ⟨px, pi, pe⟩ := p
          rw [show pO L ((0 : Nat) : Int) o = (px, pi, pe) from hp] at MP1
          rw [hp] at HPS HLA
          simp only [vx] at MP1
          rw [HNL.out] at MP1 HLA
          rw [show ((0 : Nat) : Int) = 0 from rfl] at MP1
          have MP1' := Lib.hid MP1
          clear MP1 hp ho hLn hLt
          have HX3w := Lib.hid (HBw.out.trans (HX3.out.mono HBw.out.size))
          go_wp2_with fail
          refine (MP1'.out _ HX3w.out HFT.out).mono ?_
          rintro r y1 ⟨sx, cx, rfl, hLx, hb⟩
          have HLX := Lib.hid hLx
          have HY1 := Lib.hid (HX3.out.trans (hb.mono HX3.out.size))
          have HY1w := Lib.hid (HX3w.out.trans (hb.mono HX3w.out.size))
          have HVX := Lib.hid (bx_vx y1 px sx cx)
          clear hb hLx
          by_cases hpe : pe = 0
          rotate_left
          ·have ge : (pe == 0) = false := by rw [beq_eq_false_iff_ne]; exact hpe
           clear hpe
           go_wp2_with fail
           go_roundw
           case rel => exact ⟨P, by have := HIK.out; have := HP0.out; omega, (by first | rfl | go_num), HBr.out.trans ((bal HY1.out _).mono HBr.out.size)⟩
           case measure => have := HIK.out; have := HP0.out; simp [RowKit.intOf]; omega
          ·subst hpe
           by_cases hpi : pi = (nl : Int)
           rotate_left
           ·have gi : (pi == (nl : Int)) = false := by rw [beq_eq_false_iff_ne]; exact hpi
            clear hpi
            go_wp2_with fail
            go_roundw
            case rel => exact ⟨P, by have := HIK.out; have := HP0.out; omega, (by first | rfl | go_num), HBr.out.trans ((bal HY1.out _).mono HBr.out.size)⟩
            case measure => have := HIK.out; have := HP0.out; simp [RowKit.intOf]; omega
           ·subst hpi
            have hne := HLA.out rfl rfl
            have HKy := fun W (hW : Below w3.heap.size w3 W) => (⟨keepc hW K.out.1, keepc hW K.out.2.1, keepc hW K.out.2.2.1, keepc hW K.out.2.2.2⟩ : _ ∧ _ ∧ _ ∧ _)
            have HYw := HBr.out.trans (HY1.out.mono HBr.out.size)
            obtain ⟨k0, k1, k2, k3⟩ := HKy y1 HYw
            have l4 : w.heap.size < y1.heap.size := World.block_lt_of_cell? _ _ k0
            obtain ⟨v0, v1, v2, v3, vf⟩ := HVX.out
            have RS0 := rsame px e sx so cx cap (y1.alloc (.cells #[.int .i64 px.op, .int .i64 px.n, .string (str px.s), .slice sx px.args.length cx] 27)) (by have := HPS.out; omega) (HLX.out.1.keep (bal (bref _) _)) (HLE.out.1.keep (bal HY1w.out _))
            rw [same_no hne] at RS0
            have RS := Lib.hid RS0
            clear RS0 HKy HYw
            go_wp2_with fail
            refine RS.out.mono ?_
            rintro r y2 ⟨rfl, hb⟩
            have HY2 := Lib.hid ((bal HY1.out _).trans (hb.mono (by have := HY1.out.size; simp; omega)))
            clear hb v0 v1 v2 v3 vf k0 k1 k2 k3
            go_wp2_with fail
            go_roundw
            case rel => exact ⟨P, by have := HIK.out; have := HP0.out; omega, (by first | rfl | go_num), HBr.out.trans (HY2.out.mono HBr.out.size)⟩
            case measure => have := HIK.out; have := HP0.out; simp [RowKit.intOf]; omega
end Go.Proofs.YtplkphihmfhciaaGreatDoor
