/-
  Compile of the program.
-/
import Derived.Test.YthanoilbcdhbkaaGreatDoorQI
import Derived.Test.YthanoilbcdhbkaaGreatDoorQGP
namespace Go.Proofs.YthanoilbcdhbkaaGreatDoor
open Go Go.RowKit Go.Lib Go.Shelf WM TM EM YM

def vcell (v : Vr) : List Value := [.string (str v.1), .int .i64 v.2]
def vcells : List Vr → List Value
 | [] => []
 | v :: r => vcell v ++ vcells r
theorem vcells_length (l : List Vr) : (vcells l).length = l.length * 2 := by
 induction l with
 | nil => rfl
 | cons t r ih => show (vcell t ++ vcells r).length = _; rw [List.length_append, ih, List.length_cons]; show 2 + _ = _; omega
theorem vcells_at (l : List Vr) : ∀ i, i < l.length → (vcells l)[i * 2]? = some (.string (str (l.getD i V0).1)) ∧ (vcells l)[i * 2 + 1]? = some (.int .i64 (l.getD i V0).2) := by
 induction l with
 | nil => intro i hi; exact absurd hi (Nat.not_lt_zero _)
 | cons t r ih =>
  intro i hi
  cases i with
  | zero => exact ⟨rfl, rfl⟩
  | succ i =>
   obtain ⟨h1, h2⟩ := ih i (Nat.lt_of_succ_lt_succ hi)
   have e : ∀ j, (vcells (t :: r))[(i + 1) * 2 + j]? = (vcells r)[i * 2 + j]? := by
    intro j
    show (vcell t ++ vcells r)[(i + 1) * 2 + j]? = _
    rw [List.getElem?_append_right (by show 2 ≤ _; omega)]
    congr 1
    show (i + 1) * 2 + j - 2 = _
    omega
   exact ⟨(e 0).trans h1, (e 1).trans h2⟩
theorem infoVr : (Tryz.prog.info? 57).map (fun i => (i.zero, i.size, i.bytes)) = some (some (.agg #[.string ⟨#[]⟩, .int .i64 0]), 2, 24) := by kernel_rfl
theorem own_vars {w : World} {base n : Nat} {v : Value} {l : List Vr} (h : w.ownsRow base 57 2 v n (vcells l)) :
  l.length = n ∧ ∃ ao cap, v = .slice ao n cap ∧ n ≤ cap ∧ VarsAt ao l w := by
 obtain ⟨h0, h1⟩ := h
 have hl : l.length = n := by rw [vcells_length] at h0; omega
 refine ⟨hl, ?_⟩
 rcases h1 with ⟨rfl, rfl⟩ | ⟨g, cap, cur, rfl, hb, hg, hnc, _, hcs, htake⟩
 ·exact ⟨none, 0, rfl, Nat.le_refl _, fun i hi => absurd hi (by omega)⟩
 ·refine ⟨some ⟨g, 0, none⟩, cap, rfl, hnc, fun i hi => ⟨g, 0, rfl, (Array.getElem?_eq_some_iff.1 hg).1, ?_⟩⟩
  obtain ⟨t1, t2⟩ := vcells_at l i hi
  have key : ∀ (j : Nat) (x : Value), (vcells l)[j]? = some x → w.cell? ⟨g, 0 + j, none⟩ = some x := by
   intro j x hx
   have hj : j < (vcells l).length := (List.getElem?_eq_some_iff.1 hx).1
   rw [vcells_length] at hj
   rw [Nat.zero_add, cell_of_row _ _ j cur _ (0, 0) hg, ← Array.getElem?_toList, ← hx, ← htake, List.getElem?_take, if_pos (by omega)]
  exact ⟨key _ _ t1, key _ _ t2⟩
theorem VarsAt.sav {X : Nat → Prop} {ao : Option Addr} {l : List Vr} {w w' : World} (h : VarsAt ao l w) (hs : Sav X w w') (hX : ∀ a, ao = some a → ¬ X a.block) : VarsAt ao l w' := by
 intro i hi
 obtain ⟨b, off, e, hbw, c1, c2⟩ := h i hi
 exact ⟨b, off, e, by have := hs.size; omega, hs.cell c1 (hX ⟨b, off, none⟩ e), hs.cell c2 (hX ⟨b, off, none⟩ e)⟩
theorem vnews {w : World} {ao : Option Addr} {l : List Vr} (h : VarsAt ao l w) : ∀ ad, ao = some ad → ∀ j u, (vcells l)[j]? = some u → w.cell? (ad.add j) = some u := by
 intro ad had j u hu
 have hj : j < (vcells l).length := (List.getElem?_eq_some_iff.1 hu).1
 rw [vcells_length] at hj
 obtain ⟨i, r, hr, rfl⟩ : ∃ i r, r < 2 ∧ j = i * 2 + r := ⟨j / 2, j % 2, by omega, by omega⟩
 have hi : i < l.length := by omega
 obtain ⟨b, off, hao, _, c0, c1⟩ := h i hi
 rw [had] at hao
 cases hao
 obtain ⟨t0, t1⟩ := vcells_at l i hi
 rw [Addr.add_lit]
 match r, hr with
 | 0, _ => rw [Nat.add_zero] at hu ⊢; rw [t0] at hu; cases hu; exact c0
 | 1, _ => rw [t1] at hu; cases hu; rw [← Nat.add_assoc]; exact c1
theorem vcells_mem (l : List Vr) : ∀ u ∈ vcells l, u.oneCell' = true := by
 induction l with
 | nil => intro u hu; cases hu
 | cons t m ih =>
  intro u hu
  rcases List.mem_append.1 (show u ∈ vcell t ++ vcells m from hu) with h | h
  ·simp only [vcell, List.mem_cons, List.not_mem_nil, or_false] at h
   rcases h with rfl | rfl <;> rfl
  ·exact ih u h
theorem own_varsB {w : World} {base n : Nat} {v : Value} {l : List Vr} (h : w.ownsRow base 57 2 v n (vcells l)) :
  ∃ ao cap, v = .slice ao l.length cap ∧ l.length ≤ cap ∧ VarsAt ao l w ∧ (∀ a, ao = some a → base ≤ a.block) ∧ (ao = none → l.length = 0 ∧ cap = 0) := by
 obtain ⟨hl, ao, cap, hv, hc, hV⟩ := own_vars h
 subst hl
 refine ⟨ao, cap, hv, hc, hV, fun a ha => ?_, fun hn => ?_⟩
 ·subst hv; subst ha
  exact (World.ownsRow.lt h a.block rfl).1
 ·subst hn
  rcases h.2 with ⟨h1, h2⟩ | ⟨g, cap', cur, h1, _⟩
  ·rw [hv] at h1; injection h1 with _ _ h3; exact ⟨h2, h3⟩
  ·rw [hv] at h1; injection h1 with h3; cases h3
set_option maxRecDepth 100000 in
set_option maxHeartbeats 2000000 in
theorem mclone (vs : List Vr) (vo : Option Addr) (vc : Nat) (w : World) (hvl : vs.length ≤ 100000) (hv : VarsAt vo vs w) (hz : vo = none → vs.length = 0 ∧ vc = 0) :
  Calls Tryz.prog 32 #[.slice vo vs.length vc] w fun r w' => ∃ ao cap, r = .returned (.slice ao vs.length cap) ∧ VarsAt ao vs w' ∧ Below w.heap.size w w' ∧ vs.length ≤ cap ∧ (∀ a, ao = some a → w.heap.size ≤ a.block) ∧ (ao = none → vs.length = 0 ∧ cap = 0) := by
 obtain ⟨i0, hi, hz0, hz1, hz2⟩ := info_parts infoVr
 obtain ⟨n, hn⟩ : ∃ n, vs.length = n := ⟨_, rfl⟩
 have HN := Lib.hid hn
 have HV := Lib.hid hv
 rw [hn] at hvl hz ⊢
 cases vo with
 | none =>
  obtain ⟨rfl, rfl⟩ := hz rfl
  have h0 := Lib.hid (List.eq_nil_of_length_eq_zero hn)
  have hE := fun W : World => Lib.run_eql_slice_nil_nil (P := Tryz.prog) W 0 0 Tryz.underlying25
  clear hv hn
  go_enter Tryz.func32, Tryz.ntmps32
  go_wp2_with fail
  go_ret
  exact ⟨none, 0, rfl, by rw [h0.out]; exact VarsAt.nil _ _, by repeat (first | exact bref _ | refine bdr ?_ | refine bal ?_ _), (fun a h => by cases h), fun _ => rfl⟩
 | some ad =>
  have HO : Hid ((w.alloc (.cells #[] 57)).ownsRow w.heap.size 57 2 (.slice (some ⟨w.heap.size, 0, none⟩) 0 0) 0 []) := Lib.hid (World.ownsRow_lit (w := w) (base := w.heap.size) (e := 57) (size := 2) #[] 0 (Nat.le_refl _) (by unfold maxLen; omega) rfl)
  have HB0 := Lib.hid (show Below w.heap.size w (w.alloc (.cells #[] 57)) from bal (bref w) _)
  have hE := fun W : World => Lib.run_eql_slice_some_nil (P := Tryz.prog) W ad n vc Tryz.underlying25
  clear hv hn hz
  go_enter Tryz.func32, Tryz.ntmps32
  go_wp2_with (at_builtin; (refine wpList_append_own_any rfl (.tmp 5) (.tmp 6) 25 rfl w.heap.size 57 i0 (.agg #[.string ⟨#[]⟩, .int .i64 0]) 2 24 Tryz.underlying25 hi hz0 hz1 hz2 rfl (by decide) _ 0 [] rfl HO.out (some ad) n vc (vcells vs) rfl (by rw [vcells_length, HN.out]) (fun h => by cases h) (vnews (HV.out.keep HB0.out)) (vcells_mem vs) (by unfold maxLen; omega) (by omega) (by simp) ?_); intro v1 w1 ox gx; have HO1 := Lib.hid ox; have HB1 := Lib.hid (HB0.out.grown gx (by simp) (fun b hb => (HO.out.lt b hb).1)); clear ox gx)
  have ho := HO1.out
  rw [Nat.zero_add, List.nil_append] at ho
  obtain ⟨ao, cp, rfl, hc, hV, hbl, hz2⟩ := own_varsB ho
  have HF := Lib.hid (show VarsAt ao vs w1 ∧ vs.length ≤ cp ∧ (∀ a, ao = some a → w.heap.size ≤ a.block) ∧ (ao = none → vs.length = 0 ∧ cp = 0) from ⟨hV, hc, hbl, hz2⟩)
  clear ho hc hV hbl hz2
  rw [HN.out] at HF
  rw [HN.out]
  go_wp2_with fail
  go_ret
  exact ⟨ao, cp, rfl, HF.out.1, HB1.out, HF.out.2⟩

/-! ### Compile -/
def comE (e : Ex) (vs : List Vr) : Int := if vsE vs ≠ 0 then vsE vs else (ofT e vs).2
def comC (e : Ex) (vs : List Vr) : Cd := if comE e vs = 0 then ⟨(ofT e vs).1, vs, em vs 0 e⟩ else ⟨0, [], []⟩
def GotC (q : Ending) (a : Cd) (z : Int) (w' : World) : Prop := ∃ vo vc io ic, q = .returned (.tuple #[.agg #[.int .i64 a.t, .slice vo a.vs.length vc, .slice io a.c.length ic], .int .i64 z]) ∧ CodeAt a vo vc io ic w'
theorem com_parts {e : Ex} {vs : List Vr} (h1 : vsE vs = 0) (h2 : (ofT e vs).2 = 0) : vs.length ≤ 64 ∧ siz e ≤ 64 ∧ (EM.pre e).all okN = true := by
 refine ⟨?_, ?_⟩
 ·unfold vsE at h1
  by_cases h : 64 < vs.length
  ·rw [if_pos h] at h1; cases h1
  ·omega
 ·have hv : vE e = 0 := by
   unfold ofT at h2
   by_cases h : vE e = 0
   ·exact h
   ·rw [if_neg h] at h2; exact absurd h2 h
  have := (vE_zero e).1 hv
  exact this.2
theorem res_code2 {fn : Func} {p u : Tmp} (h : fn.results = #[.cell p 30, .tmp u]) (tmps : Array Value) (w : World) (b : Nat) (hp : tmps.getD p undef = .pointer (some ⟨b, 0, none⟩)) (y : Value) (hu : tmps.getD u undef = y) (x0 x1 x2 : Value) (h0 : w.cell? ⟨b, 0, none⟩ = some x0) (h1 : w.cell? ⟨b, 1, none⟩ = some x1) (h2 : w.cell? ⟨b, 2, none⟩ = some x2) :
  (results fn tmps).run Tryz.prog w = .ok (.tuple #[.agg #[x0, x1, x2], y]) w := by
 rw [Array.getD_eq_getD_getElem?] at hp hu
 simp [results, h, hp, hu, go_sem, h0, h1, h2]
theorem sav3 (w : World) (b : Nat) (x y z : Value) : Sav (fun k => k = b) w (((w.setCell ⟨b, 0, none⟩ x).setCell ⟨b, 1, none⟩ y).setCell ⟨b, 2, none⟩ z) :=
 ((Sav.setCell w ⟨b, 0, none⟩ x).trans (Sav.setCell _ ⟨b, 1, none⟩ y) (fun _ _ e => e)).trans (Sav.setCell _ ⟨b, 2, none⟩ z) (fun _ _ e => e)
set_option maxRecDepth 100000 in
set_option maxHeartbeats 8000000 in
theorem mCompile (e : Ex) (so : Option Addr) (cap : Nat) (vs : List Vr) (vo : Option Addr) (vc : Nat) (w : World) (hm : siz e ≤ 100000) (hvl : vs.length ≤ 100000) (hG : Ge w) (hcap : vs.length ≤ vc) (hz : vo = none → vs.length = 0 ∧ vc = 0) (hv : VarsAt vo vs w) (hL : Lies (e, so, cap) w) :
  Calls Tryz.prog 12 #[.agg #[.int .i64 e.op, .int .i64 e.n, .string (str e.s), .slice so e.args.length cap], .slice vo vs.length vc] w fun r w' => GotC r (comC e vs) (comE e vs) w' ∧ Below w.heap.size w w' := by
 have CV := Lib.hid (fun W (hW : Below w.heap.size w W) => mVars vs vo vc W (hG.keep hW) hcap (hv.keep hW))
 have CO := Lib.hid (fun W (hW : Below w.heap.size w W) => mOf vs vo vc hvl e so cap W hm (hG.keep hW) (hv.keep hW) (hL.keep hW))
 have HBX := Lib.hid (show Below w.heap.size w ((w.alloc (.cells #[.int .i64 e.op, .int .i64 e.n, .string (str e.s), .slice so e.args.length cap] 24)).alloc (.cells #[.int .i64 0, .slice none 0 0, .slice none 0 0] 30)) from bal (bal (bref w) _) _)
 by_cases h1 : vsE vs = 0
 rotate_left
 ·have hb1 : (vsE vs != 0) = true := bne_yes h1
  have hE : comE e vs = vsE vs := by unfold comE; rw [if_pos h1]
  have hC : comC e vs = ⟨0, [], []⟩ := by unfold comC; rw [hE, if_neg h1]
  rw [hE, hC]
  obtain ⟨z, hz9⟩ : ∃ z, vsE vs = z := ⟨_, rfl⟩
  rw [hz9] at CV hb1 h1 ⊢
  obtain ⟨vn, hvn⟩ : ∃ n, vs.length = n := ⟨_, rfl⟩
  rw [hvn] at CV ⊢
  clear CO hm hvl hG hcap hz hv hL hE hC hz9 hvn
  go_enter Tryz.func12, Tryz.ntmps12
  go_wp2_with fail
  refine (CV.out _ HBX.out).mono ?_
  rintro r w1 ⟨rfl, hb⟩
  have y0 := keepc hb (show ((w.alloc (.cells #[.int .i64 e.op, .int .i64 e.n, .string (str e.s), .slice so e.args.length cap] 24)).alloc (.cells #[.int .i64 0, .slice none 0 0, .slice none 0 0] 30)).cell? ⟨w.heap.size + 1, 0, none⟩ = some (.int .i64 0) by simp [go_sem])
  have z0 := keepf hb (show ((w.alloc (.cells #[.int .i64 e.op, .int .i64 e.n, .string (str e.s), .slice so e.args.length cap] 24)).alloc (.cells #[.int .i64 0, .slice none 0 0, .slice none 0 0] 30)).cell? ⟨w.heap.size + 1, 0, none⟩ = some (.int .i64 0) by simp [go_sem]) (show ((w.alloc (.cells #[.int .i64 e.op, .int .i64 e.n, .string (str e.s), .slice so e.args.length cap] 24)).alloc (.cells #[.int .i64 0, .slice none 0 0, .slice none 0 0] 30)).frozen? ⟨w.heap.size + 1, 0, none⟩ = false by simp [go_sem])
  have y1 := keepc hb (show ((w.alloc (.cells #[.int .i64 e.op, .int .i64 e.n, .string (str e.s), .slice so e.args.length cap] 24)).alloc (.cells #[.int .i64 0, .slice none 0 0, .slice none 0 0] 30)).cell? ⟨w.heap.size + 1, 1, none⟩ = some (.slice none 0 0) by simp [go_sem])
  have z1 := keepf hb (show ((w.alloc (.cells #[.int .i64 e.op, .int .i64 e.n, .string (str e.s), .slice so e.args.length cap] 24)).alloc (.cells #[.int .i64 0, .slice none 0 0, .slice none 0 0] 30)).cell? ⟨w.heap.size + 1, 1, none⟩ = some (.slice none 0 0) by simp [go_sem]) (show ((w.alloc (.cells #[.int .i64 e.op, .int .i64 e.n, .string (str e.s), .slice so e.args.length cap] 24)).alloc (.cells #[.int .i64 0, .slice none 0 0, .slice none 0 0] 30)).frozen? ⟨w.heap.size + 1, 1, none⟩ = false by simp [go_sem])
  have y2 := keepc hb (show ((w.alloc (.cells #[.int .i64 e.op, .int .i64 e.n, .string (str e.s), .slice so e.args.length cap] 24)).alloc (.cells #[.int .i64 0, .slice none 0 0, .slice none 0 0] 30)).cell? ⟨w.heap.size + 1, 2, none⟩ = some (.slice none 0 0) by simp [go_sem])
  have z2 := keepf hb (show ((w.alloc (.cells #[.int .i64 e.op, .int .i64 e.n, .string (str e.s), .slice so e.args.length cap] 24)).alloc (.cells #[.int .i64 0, .slice none 0 0, .slice none 0 0] 30)).cell? ⟨w.heap.size + 1, 2, none⟩ = some (.slice none 0 0) by simp [go_sem]) (show ((w.alloc (.cells #[.int .i64 e.op, .int .i64 e.n, .string (str e.s), .slice so e.args.length cap] 24)).alloc (.cells #[.int .i64 0, .slice none 0 0, .slice none 0 0] 30)).frozen? ⟨w.heap.size + 1, 2, none⟩ = false by simp [go_sem])
  have HB1 := Lib.hid (btr HBX.out hb)
  clear hb
  go_wp2_with fail
  refine bodyPost_ret (res_code2 rfl _ _ _ rfl _ rfl (.int .i64 0) (.slice none 0 0) (.slice none 0 0) (by simp [go_sem, y0]) (by simp [go_sem, y1]) (by simp [go_sem, y2])) rfl ?_
  exact ⟨⟨none, 0, none, 0, rfl, ⟨VarsAt.nil _ _, InsAt.nil _ _, Nat.le_refl _, fun _ => ⟨rfl, rfl⟩, fun _ => ⟨rfl, rfl⟩⟩⟩, bset (bset (bset HB1.out (by simp) _) (by simp) _) (by simp) _⟩
 by_cases h2 : (ofT e vs).2 = 0
 rotate_left
 ·have hb1 : ((ofT e vs).2 != 0) = true := bne_yes h2
  have hE : comE e vs = (ofT e vs).2 := by unfold comE; rw [if_neg (by omega)]
  have hC : comC e vs = ⟨0, [], []⟩ := by unfold comC; rw [hE, if_neg h2]
  rw [hE, hC]
  obtain ⟨z, hz9⟩ : ∃ z, (ofT e vs).2 = z := ⟨_, rfl⟩
  obtain ⟨y, hy9⟩ : ∃ z, (ofT e vs).1 = z := ⟨_, rfl⟩
  rw [h1] at CV
  rw [hz9, hy9] at CO
  rw [hz9] at hb1 h2 ⊢
  obtain ⟨vn, hvn⟩ : ∃ n, vs.length = n := ⟨_, rfl⟩
  rw [hvn] at CV CO ⊢
  clear hm hvl hG hcap hz hv hL hE hC hz9 hvn h1 hy9
  go_enter Tryz.func12, Tryz.ntmps12
  go_wp2_with fail
  refine (CV.out _ HBX.out).mono ?_
  rintro r w1 ⟨rfl, hb⟩
  have b0 := keepc hb (show ((w.alloc (.cells #[.int .i64 e.op, .int .i64 e.n, .string (str e.s), .slice so e.args.length cap] 24)).alloc (.cells #[.int .i64 0, .slice none 0 0, .slice none 0 0] 30)).cell? ⟨w.heap.size, 0, none⟩ = some (.int .i64 e.op) by simp [go_sem])
  have b1 := keepc hb (show ((w.alloc (.cells #[.int .i64 e.op, .int .i64 e.n, .string (str e.s), .slice so e.args.length cap] 24)).alloc (.cells #[.int .i64 0, .slice none 0 0, .slice none 0 0] 30)).cell? ⟨w.heap.size, 1, none⟩ = some (.int .i64 e.n) by simp [go_sem])
  have b2 := keepc hb (show ((w.alloc (.cells #[.int .i64 e.op, .int .i64 e.n, .string (str e.s), .slice so e.args.length cap] 24)).alloc (.cells #[.int .i64 0, .slice none 0 0, .slice none 0 0] 30)).cell? ⟨w.heap.size, 2, none⟩ = some (.string (str e.s)) by simp [go_sem])
  have b3 := keepc hb (show ((w.alloc (.cells #[.int .i64 e.op, .int .i64 e.n, .string (str e.s), .slice so e.args.length cap] 24)).alloc (.cells #[.int .i64 0, .slice none 0 0, .slice none 0 0] 30)).cell? ⟨w.heap.size, 3, none⟩ = some (.slice so e.args.length cap) by simp [go_sem])
  have y0 := keepc hb (show ((w.alloc (.cells #[.int .i64 e.op, .int .i64 e.n, .string (str e.s), .slice so e.args.length cap] 24)).alloc (.cells #[.int .i64 0, .slice none 0 0, .slice none 0 0] 30)).cell? ⟨w.heap.size + 1, 0, none⟩ = some (.int .i64 0) by simp [go_sem])
  have z0 := keepf hb (show ((w.alloc (.cells #[.int .i64 e.op, .int .i64 e.n, .string (str e.s), .slice so e.args.length cap] 24)).alloc (.cells #[.int .i64 0, .slice none 0 0, .slice none 0 0] 30)).cell? ⟨w.heap.size + 1, 0, none⟩ = some (.int .i64 0) by simp [go_sem]) (show ((w.alloc (.cells #[.int .i64 e.op, .int .i64 e.n, .string (str e.s), .slice so e.args.length cap] 24)).alloc (.cells #[.int .i64 0, .slice none 0 0, .slice none 0 0] 30)).frozen? ⟨w.heap.size + 1, 0, none⟩ = false by simp [go_sem])
  have y1 := keepc hb (show ((w.alloc (.cells #[.int .i64 e.op, .int .i64 e.n, .string (str e.s), .slice so e.args.length cap] 24)).alloc (.cells #[.int .i64 0, .slice none 0 0, .slice none 0 0] 30)).cell? ⟨w.heap.size + 1, 1, none⟩ = some (.slice none 0 0) by simp [go_sem])
  have z1 := keepf hb (show ((w.alloc (.cells #[.int .i64 e.op, .int .i64 e.n, .string (str e.s), .slice so e.args.length cap] 24)).alloc (.cells #[.int .i64 0, .slice none 0 0, .slice none 0 0] 30)).cell? ⟨w.heap.size + 1, 1, none⟩ = some (.slice none 0 0) by simp [go_sem]) (show ((w.alloc (.cells #[.int .i64 e.op, .int .i64 e.n, .string (str e.s), .slice so e.args.length cap] 24)).alloc (.cells #[.int .i64 0, .slice none 0 0, .slice none 0 0] 30)).frozen? ⟨w.heap.size + 1, 1, none⟩ = false by simp [go_sem])
  have y2 := keepc hb (show ((w.alloc (.cells #[.int .i64 e.op, .int .i64 e.n, .string (str e.s), .slice so e.args.length cap] 24)).alloc (.cells #[.int .i64 0, .slice none 0 0, .slice none 0 0] 30)).cell? ⟨w.heap.size + 1, 2, none⟩ = some (.slice none 0 0) by simp [go_sem])
  have z2 := keepf hb (show ((w.alloc (.cells #[.int .i64 e.op, .int .i64 e.n, .string (str e.s), .slice so e.args.length cap] 24)).alloc (.cells #[.int .i64 0, .slice none 0 0, .slice none 0 0] 30)).cell? ⟨w.heap.size + 1, 2, none⟩ = some (.slice none 0 0) by simp [go_sem]) (show ((w.alloc (.cells #[.int .i64 e.op, .int .i64 e.n, .string (str e.s), .slice so e.args.length cap] 24)).alloc (.cells #[.int .i64 0, .slice none 0 0, .slice none 0 0] 30)).frozen? ⟨w.heap.size + 1, 2, none⟩ = false by simp [go_sem])
  have HB1 := Lib.hid (btr HBX.out hb)
  clear hb
  go_wp2_with fail
  refine (CO.out _ HB1.out).mono ?_
  rintro r w2 ⟨rfl, hb⟩
  replace z0 := keepf hb y0 z0
  replace y0 := keepc hb y0
  replace z1 := keepf hb y1 z1
  replace y1 := keepc hb y1
  replace z2 := keepf hb y2 z2
  replace y2 := keepc hb y2
  have HB2 := Lib.hid (btr HB1.out hb)
  clear hb b0 b1 b2 b3
  go_wp2_with fail
  refine bodyPost_ret (res_code2 rfl _ _ _ rfl _ rfl (.int .i64 0) (.slice none 0 0) (.slice none 0 0) (by simp [go_sem, y0]) (by simp [go_sem, y1]) (by simp [go_sem, y2])) rfl ?_
  exact ⟨⟨none, 0, none, 0, rfl, ⟨VarsAt.nil _ _, InsAt.nil _ _, Nat.le_refl _, fun _ => ⟨rfl, rfl⟩, fun _ => ⟨rfl, rfl⟩⟩⟩, bset (bset (bset HB2.out (by simp) _) (by simp) _) (by simp) _⟩
 ·obtain ⟨p1, p2, p3⟩ := com_parts h1 h2
  have hE : comE e vs = 0 := by unfold comE; rw [if_neg (by omega), h2]
  have hC : comC e vs = ⟨(ofT e vs).1, vs, em vs 0 e⟩ := by unfold comC; rw [if_pos hE]
  rw [hE, hC]
  have hel := (em_len vs e p3 0).2
  rw [h1] at CV
  rw [h2] at CO
  have CX := Lib.hid (fun W0 (h0 : Below w.heap.size w W0) W hW hc => mexpr vs vo vc W0 hvl (hv.keep h0) e p3 so cap (.slice none 0 0) [] W hW (hL.1.keep h0) hc (by simp; omega))
  have CLN := Lib.hid (fun W (hW : Below w.heap.size w W) => mclone vs vo vc W hvl (hv.keep hW) hz)
  obtain ⟨y, hy9⟩ : ∃ z, (ofT e vs).1 = z := ⟨_, rfl⟩
  rw [hy9] at CO ⊢
  have HP2 := Lib.hid p2
  obtain ⟨eo, heo⟩ : ∃ q, e.op = q := ⟨_, rfl⟩
  obtain ⟨en, hen⟩ : ∃ q, e.n = q := ⟨_, rfl⟩
  obtain ⟨es, hes⟩ : ∃ q, str e.s = q := ⟨_, rfl⟩
  obtain ⟨el, hell⟩ : ∃ q, e.args.length = q := ⟨_, rfl⟩
  obtain ⟨vn, hvn⟩ : ∃ n, vs.length = n := ⟨_, rfl⟩
  obtain ⟨em0, hem0⟩ : ∃ q, em vs 0 e = q := ⟨_, rfl⟩
  have HVN := Lib.hid hvn
  have HEM := Lib.hid hem0
  rw [hem0] at hel ⊢
  simp only [List.length_nil, List.nil_append] at CX
  rw [hem0, heo, hen, hes, hell, hvn] at CX
  rw [heo, hen, hes, hell] at HBX CO ⊢
  rw [hvn] at CV CO CLN
  rw [hvn]
  clear hm hvl hG hcap hz hv hL hE hC hvn h1 h2 hy9 p1 p2 p3 heo hen hes hell hem0
  go_enter Tryz.func12, Tryz.ntmps12
  go_wp2_with fail
  refine (CV.out _ HBX.out).mono ?_
  rintro r w1 ⟨rfl, hb⟩
  have b0 := keepc hb (show ((w.alloc (.cells #[.int .i64 eo, .int .i64 en, .string es, .slice so el cap] 24)).alloc (.cells #[.int .i64 0, .slice none 0 0, .slice none 0 0] 30)).cell? ⟨w.heap.size, 0, none⟩ = some (.int .i64 eo) by simp [go_sem])
  have b1 := keepc hb (show ((w.alloc (.cells #[.int .i64 eo, .int .i64 en, .string es, .slice so el cap] 24)).alloc (.cells #[.int .i64 0, .slice none 0 0, .slice none 0 0] 30)).cell? ⟨w.heap.size, 1, none⟩ = some (.int .i64 en) by simp [go_sem])
  have b2 := keepc hb (show ((w.alloc (.cells #[.int .i64 eo, .int .i64 en, .string es, .slice so el cap] 24)).alloc (.cells #[.int .i64 0, .slice none 0 0, .slice none 0 0] 30)).cell? ⟨w.heap.size, 2, none⟩ = some (.string es) by simp [go_sem])
  have b3 := keepc hb (show ((w.alloc (.cells #[.int .i64 eo, .int .i64 en, .string es, .slice so el cap] 24)).alloc (.cells #[.int .i64 0, .slice none 0 0, .slice none 0 0] 30)).cell? ⟨w.heap.size, 3, none⟩ = some (.slice so el cap) by simp [go_sem])
  have y0 := keepc hb (show ((w.alloc (.cells #[.int .i64 eo, .int .i64 en, .string es, .slice so el cap] 24)).alloc (.cells #[.int .i64 0, .slice none 0 0, .slice none 0 0] 30)).cell? ⟨w.heap.size + 1, 0, none⟩ = some (.int .i64 0) by simp [go_sem])
  have z0 := keepf hb (show ((w.alloc (.cells #[.int .i64 eo, .int .i64 en, .string es, .slice so el cap] 24)).alloc (.cells #[.int .i64 0, .slice none 0 0, .slice none 0 0] 30)).cell? ⟨w.heap.size + 1, 0, none⟩ = some (.int .i64 0) by simp [go_sem]) (show ((w.alloc (.cells #[.int .i64 eo, .int .i64 en, .string es, .slice so el cap] 24)).alloc (.cells #[.int .i64 0, .slice none 0 0, .slice none 0 0] 30)).frozen? ⟨w.heap.size + 1, 0, none⟩ = false by simp [go_sem])
  have y1 := keepc hb (show ((w.alloc (.cells #[.int .i64 eo, .int .i64 en, .string es, .slice so el cap] 24)).alloc (.cells #[.int .i64 0, .slice none 0 0, .slice none 0 0] 30)).cell? ⟨w.heap.size + 1, 1, none⟩ = some (.slice none 0 0) by simp [go_sem])
  have z1 := keepf hb (show ((w.alloc (.cells #[.int .i64 eo, .int .i64 en, .string es, .slice so el cap] 24)).alloc (.cells #[.int .i64 0, .slice none 0 0, .slice none 0 0] 30)).cell? ⟨w.heap.size + 1, 1, none⟩ = some (.slice none 0 0) by simp [go_sem]) (show ((w.alloc (.cells #[.int .i64 eo, .int .i64 en, .string es, .slice so el cap] 24)).alloc (.cells #[.int .i64 0, .slice none 0 0, .slice none 0 0] 30)).frozen? ⟨w.heap.size + 1, 1, none⟩ = false by simp [go_sem])
  have y2 := keepc hb (show ((w.alloc (.cells #[.int .i64 eo, .int .i64 en, .string es, .slice so el cap] 24)).alloc (.cells #[.int .i64 0, .slice none 0 0, .slice none 0 0] 30)).cell? ⟨w.heap.size + 1, 2, none⟩ = some (.slice none 0 0) by simp [go_sem])
  have z2 := keepf hb (show ((w.alloc (.cells #[.int .i64 eo, .int .i64 en, .string es, .slice so el cap] 24)).alloc (.cells #[.int .i64 0, .slice none 0 0, .slice none 0 0] 30)).cell? ⟨w.heap.size + 1, 2, none⟩ = some (.slice none 0 0) by simp [go_sem]) (show ((w.alloc (.cells #[.int .i64 eo, .int .i64 en, .string es, .slice so el cap] 24)).alloc (.cells #[.int .i64 0, .slice none 0 0, .slice none 0 0] 30)).frozen? ⟨w.heap.size + 1, 2, none⟩ = false by simp [go_sem])
  have HB1 := Lib.hid (btr HBX.out hb)
  clear hb
  go_wp2_with fail
  refine (CO.out _ HB1.out).mono ?_
  rintro r w2 ⟨rfl, hb⟩
  replace b0 := keepc hb b0
  replace b1 := keepc hb b1
  replace b2 := keepc hb b2
  replace b3 := keepc hb b3
  replace z0 := keepf hb y0 z0
  replace y0 := keepc hb y0
  replace z1 := keepf hb y1 z1
  replace y1 := keepc hb y1
  replace z2 := keepf hb y2 z2
  replace y2 := keepc hb y2
  have HB2 := Lib.hid (btr HB1.out hb)
  clear hb
  have HB3 := Lib.hid (show Below w2.heap.size w2 (w2.alloc (.cells #[.slice vo vn vc, .slice none 0 0] 53)) from bal (bref w2) _)
  have q0 := y0
  have c0 := keepc HB3.out b0
  have q1 := y1
  have c1 := keepc HB3.out b1
  have q2 := y2
  have c2 := keepc HB3.out b2
  have c3 := keepc HB3.out b3
  go_wp2_with fail
  refine (CX.out w2 HB2.out _ HB3.out ⟨by simp [go_sem], by simp [go_sem], by simp [go_sem], OI.nil _ _⟩).mono ?_
  rintro r w4 ⟨rfl, v1, k1, s1, n1⟩
  have hb4 : Below w2.heap.size w2 w4 := HB3.out.trans (s1.below (fun k e => e.elim (fun e => by omega) (fun e => by cases e)) HB3.out.size)
  have hlt := k1.lt
  have hm1 : w.heap.size + 1 < w2.heap.size := World.block_lt_of_cell? w2 _ q0
  have x0 := keepc hb4 y0
  have xf0 := keepf hb4 y0 z0
  have x1 := keepc hb4 y1
  have xf1 := keepf hb4 y1 z1
  have x2 := keepc hb4 y2
  have xf2 := keepf hb4 y2 z2
  have HB4 := Lib.hid (btr HB2.out hb4)
  obtain ⟨io, ic, rfl, hic, _, hiz⟩ := k1.2.2.2.shape
  have kc1 := k1.2.1
  have K1 := Lib.hid k1
  obtain ⟨ln, hln⟩ : ∃ q, em0.length = q := ⟨_, rfl⟩
  rw [hln] at kc1
  have HLN := Lib.hid hln
  have HIZ := Lib.hid hiz
  clear k1 s1 n1 hb4 hln hic hiz q0 q1 q2 b0 b1 b2 b3
  go_wp2_with fail
  refine wp_region_held_drew (S := (fun W => W.cell? ⟨w2.heap.size, 1, none⟩ = some (.slice io ln ic))) (by kernel_rfl) (keepc (bdr (bref _)) kc1) (fun hH0 => ?_)
  refine wpAnyH_take (i := 0) (oi := _) (v := ?_) rfl (by kernel_rfl) (by kernel_rfl) (by kernel_rfl) (fun _ _ _ h => h) (Or.inl ⟨?_, ?_⟩) hH0 ?_
  rotate_left
  ·kernel_rfl
  ·(intro W' _; go_simp; (try with_reducible rfl))
  (try simp only [List.getElem_toArray, List.getElem_cons_zero, Act.put, List.setIfInBounds_toArray, List.set_cons_succ, List.set_cons_zero])
  refine wpAnyH_take (i := 1) (oi := _) (v := ?_) rfl (by kernel_rfl) (by kernel_rfl) (by kernel_rfl) (fun _ _ _ h => h) (Or.inl ⟨?_, ?_⟩) hH0 ?_
  rotate_left
  ·kernel_rfl
  ·(intro W' _; go_simp; (try with_reducible rfl))
  (try simp only [List.getElem_toArray, List.getElem_cons_succ, List.getElem_cons_zero, Act.put, List.setIfInBounds_toArray, List.set_cons_succ, List.set_cons_zero])
  refine wpAnyH_take (i := 3) (oi := _) (v := ?_) rfl (by kernel_rfl) (by kernel_rfl) (by kernel_rfl) (fun _ _ _ h => h) (Or.inl ⟨?_, ?_⟩) hH0 ?_
  rotate_left
  ·kernel_rfl
  ·(intro W' _; go_simp; (try with_reducible rfl))
  (try simp only [List.getElem_toArray, List.getElem_cons_succ, List.getElem_cons_zero, Act.put, List.setIfInBounds_toArray, List.set_cons_succ, List.set_cons_zero])
  refine wpAnyH_take (i := 4) (oi := _) (v := ?_) rfl (by kernel_rfl) (by kernel_rfl) (by kernel_rfl) (fun _ _ _ h => h) (Or.inl ⟨?_, ?_⟩) hH0 ?_
  rotate_left
  ·kernel_rfl
  ·(intro W' hSw; have f0 := hSw; go_simp; (try with_reducible rfl))
  (try simp only [List.getElem_toArray, List.getElem_cons_succ, List.getElem_cons_zero, Act.put, List.setIfInBounds_toArray, List.set_cons_succ, List.set_cons_zero])
  refine wpAnyH_ready (rs := [2]) (by kernel_rfl) (by simp) ?_
  refine AllReadyH.cons (o := _) rfl (fun K hK => ?_) AllReadyH.nil
  go_simp
  refine (CLN.out _ (HB4.out.trans ((bdr (bref w4)).mono HB4.out.size))).mono ?_
  rintro r w5 ⟨vo2, vc2, rfl, hv2, hb5, hc5, hn5, hz5⟩
  refine hK.out _ _ (keepc hb5 hH0) (fun hH1 => ?_)
  clear hK K
  (try simp only [List.getElem_toArray, List.getElem_cons_succ, List.getElem_cons_zero, Act.put, List.setIfInBounds_toArray, List.set_cons_succ, List.set_cons_zero])
  refine wpAnyH_take (i := 5) (oi := _) (v := ?_) rfl (by kernel_rfl) (by kernel_rfl) (by kernel_rfl) (fun _ _ _ h => h) (Or.inl ⟨?_, ?_⟩) hH1 ?_
  rotate_left
  ·kernel_rfl
  ·(intro W' _; go_simp; (try with_reducible rfl))
  (try simp only [List.getElem_toArray, List.getElem_cons_succ, List.getElem_cons_zero, Act.put, List.setIfInBounds_toArray, List.set_cons_succ, List.set_cons_zero])
  refine wpAnyH_ready (rs := [6]) (by kernel_rfl) (by simp) ?_
  refine AllReadyH.cons (o := _) rfl (fun K hK => ?_) AllReadyH.nil
  have m0 := keepc hb5 (keepc (bdr (bref _)) x0)
  have m1 := keepc hb5 (keepc (bdr (bref _)) x1)
  have m2 := keepc hb5 (keepc (bdr (bref _)) x2)
  have m3 := keepf hb5 (keepc (bdr (bref _)) x0) (keepf (bdr (bref _)) x0 xf0)
  have m4 := keepf hb5 (keepc (bdr (bref _)) x1) (keepf (bdr (bref _)) x1 xf1)
  have m5 := keepf hb5 (keepc (bdr (bref _)) x2) (keepf (bdr (bref _)) x2 xf2)
  go_simp
  refine hK.out _ _ (by have e9 := hH1; simp [go_sem, e9]) (fun hH2 => ?_)
  clear hK K
  (try simp only [List.getElem_toArray, List.getElem_cons_succ, List.getElem_cons_zero, Act.put, List.setIfInBounds_toArray, List.set_cons_succ, List.set_cons_zero])
  refine wpAnyH_take (i := 7) (oi := _) (v := ?_) rfl (by kernel_rfl) (by kernel_rfl) (by kernel_rfl) (fun _ _ _ h => h) (Or.inl ⟨?_, ?_⟩) hH2 ?_
  rotate_left
  ·kernel_rfl
  ·(intro W' _; go_simp; (try with_reducible rfl))
  (try simp only [List.getElem_toArray, List.getElem_cons_succ, List.getElem_cons_zero, Act.put, List.setIfInBounds_toArray, List.set_cons_succ, List.set_cons_zero])
  refine wpAnyH_done (by kernel_rfl) ?_ _
  have o5 := ((K1.out.2.2.2.keep (bdr (bref _))).keep hb5).sav (sav3 w5 (w.heap.size + 1) (.int .i64 y) (.slice vo2 vn vc2) (.slice io ln ic)) (fun g hg e => by have h1 := (K1.out.2.2.2.lt hg).1; have e' : g = w.heap.size + 1 := e; omega)
  obtain ⟨io', ic', e6, _, hI, hZ⟩ := o5.shape
  rw [HLN.out] at e6
  cases e6
  have v5 := hv2.sav (sav3 w5 (w.heap.size + 1) (.int .i64 y) (.slice vo2 vn vc2) (.slice io ln ic)) (fun a ha e => by have h1 := hn5 a ha; have e' : a.block = w.heap.size + 1 := e; simp at h1; omega)
  have m0 := keepc hb5 (keepc (bdr (bref _)) x0)
  have m1 := keepc hb5 (keepc (bdr (bref _)) x1)
  have m2 := keepc hb5 (keepc (bdr (bref _)) x2)
  have HB5 := Lib.hid (btr (HB4.out.trans ((bdr (bref w4)).mono HB4.out.size)) hb5)
  go_wp2_with fail
  refine bodyPost_ret (res_code2 rfl _ _ _ rfl _ rfl (.int .i64 y) (.slice vo2 vn vc2) (.slice io ln ic) (by simp [go_sem, m0]) (by simp [go_sem, m1]) (by simp [go_sem, m2])) rfl ?_
  exact ⟨⟨vo2, vc2, io, ic, by rw [HVN.out, HLN.out]; rfl, ⟨v5, hI, by rw [HVN.out]; exact hc5, by rw [HVN.out]; exact hz5, hZ⟩⟩, bset (bset (bset HB5.out (by simp) _) (by simp) _) (by simp) _⟩
end Go.Proofs.YthanoilbcdhbkaaGreatDoor
