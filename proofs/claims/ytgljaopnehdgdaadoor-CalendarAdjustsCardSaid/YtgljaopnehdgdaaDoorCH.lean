/-
  Contracts of package calendar's Adjust, and of the document's own.
-/
import Derived.Test.YtgljaopnehdgdaaDoorCG
namespace Go.Proofs.YtgljaopnehdgdaaDoor
open Go Go.RowKit Go.Lib WM

def mdB (we ho : List Int) (day me : Int) : Bool := decide (nxE we ho day = 0) && decide (nxV we ho day ≤ me)
def mdV (we ho : List Int) (day me : Int) : Int := if mdB we ho day me = true then nxV we ho day else pvV we ho day
def mdE (we ho : List Int) (day me : Int) : Int := if mdB we ho day me = true then 0 else pvE we ho day
def ajV (we ho : List Int) (day me rule : Int) : Int := if vdB day = true then (if rule = 0 then day else if rule = 1 then nxV we ho day else if rule = 2 then mdV we ho day me else if rule = 3 then pvV we ho day else 0) else 0
def ajE (we ho : List Int) (day me rule : Int) : Int := if vdB day = true then (if rule = 0 then 0 else if rule = 1 then nxE we ho day else if rule = 2 then mdE we ho day me else if rule = 3 then pvE we ho day else 1) else 1
/-- The last day of a day's month. -/
def MEnd (day me : Int) : Prop := ∃ y m d, Civ day y m d ∧ me = day + lenI y m - d
theorem box_new (nm : ByteArray) (wo hp : Option Addr) (wc hc : Nat) (we ho : List Int) (w : World) : Box3 w.heap.size (.string nm) (.slice wo we.length wc) (.slice hp ho.length hc) (w.alloc (.cells #[.string nm, .slice wo we.length wc, .slice hp ho.length hc] 24)) := by
  refine ⟨?_, ?_, ?_⟩ <;> simp [go_sem]
theorem nx_bd (we ho : List Int) (day : Int) : 0 ≤ nxV we ho day ∧ nxV we ho day ≤ 73048 ∧ (nxE we ho day = 0 ∨ nxE we ho day = 11 ∨ nxE we ho day = 1) := by
  have key : ∀ (p : Int → Bool) (n : Nat) (d : Int), 0 ≤ d → d + n = 73049 → 0 ≤ anV (upN p d n) ∧ anV (upN p d n) ≤ 73048 := by
    intro p n
    induction n with
    | zero => intro d _ _; exact ⟨Int.le_refl 0, by show (0 : Int) ≤ 73048; decide⟩
    | succ n ih =>
      intro d h0 h1
      have e : upN p d (n + 1) = if p d = true then some d else upN p (d + 1) n := rfl
      rw [e]
      split
      · rw [(an_some d).1]; omega
      · exact ih (d + 1) (by omega) (by omega)
  unfold nxV nxE
  split
  · rename_i h
    obtain ⟨a, b⟩ := (vd_iff day).1 h
    have k := key (dOpen we ho) (73049 - day).toNat day a (by omega)
    refine ⟨k.1, k.2, ?_⟩
    unfold anE
    split
    · exact Or.inl rfl
    · exact Or.inr (Or.inl rfl)
  · exact ⟨Int.le_refl 0, by decide, Or.inr (Or.inr rfl)⟩

set_option maxRecDepth 100000 in
set_option maxHeartbeats 1000000 in
theorem mMod (nm : ByteArray) (wo hp : Option Addr) (wc hc : Nat) (we ho : List Int) (day me : Int) (hme : MEnd day me) (w : World) (hL : Ln w) (hc0 : CalAt wo hp we ho w) :
    Calls Tryd.prog 45 #[.agg #[.string nm, .slice wo we.length wc, .slice hp ho.length hc], .int .i64 day] w fun e w' => e = .returned (.tuple #[.int .i64 (mdV we ho day me), .int .i64 (mdE we ho day me)]) ∧ Below w.heap.size w w' := by
  obtain ⟨y, m, d, hC, rfl⟩ := hme
  have HC := Lib.hid hc0
  have HX := Lib.hid (box_new nm wo hp wc hc we ho w)
  obtain ⟨b0, b1, b2⟩ := nx_bd we ho day
  have C1 := fun W h => mNext nm wo hp wc hc we ho day W h
  have C2 := Lib.hid (fun W h => mPrev nm wo hp wc hc we ho day W h)
  have C3 := fun W h => mend day y m d hC W h
  obtain ⟨me, hme⟩ : ∃ me, day + lenI y m - d = me := ⟨_, rfl⟩
  rw [hme]
  simp only [hme] at C3
  have C3 := Lib.hid C3
  have HL := Lib.hid hL
  obtain ⟨NV, hNV⟩ : ∃ NV, nxV we ho day = NV := ⟨_, rfl⟩
  obtain ⟨NE, hNE⟩ : ∃ NE, nxE we ho day = NE := ⟨_, rfl⟩
  simp only [hNV, hNE] at C1
  rw [hNV] at b0 b1
  rw [hNE] at b2
  have C1 := Lib.hid C1
  clear hme hC hc0 hL
  by_cases h1 : NE = 0
  · subst h1
    by_cases h2 : NV ≤ me
    · have hb : mdB we ho day me = true := by unfold mdB; rw [hNE, hNV]; simp [h2]
      have R1 : Hid (mdV we ho day me = NV) := Lib.hid (by unfold mdV; rw [if_pos hb, hNV])
      have R2 : Hid (mdE we ho day me = 0) := Lib.hid (by unfold mdE; rw [if_pos hb])
      rw [R1.out, R2.out]
      have h2' : ¬ me < NV := by omega
      clear hb hNV hNE b2
      go_enter Tryd.func45, Tryd.ntmps45
      go_wp2_with fail
      refine (C1.out _ (HC.out.keep (bal (bref _) _))).mono ?_
      rintro e w1 ⟨rfl, q1⟩
      obtain ⟨x0, x1, x2⟩ := HX.out.keep q1
      have B1 := Lib.hid (btr (bal (bref _) _) q1)
      clear q1
      go_wp2_with fail
      refine (C3.out _ (HL.out.keep B1.out)).mono ?_
      rintro e w2 ⟨rfl, rfl⟩
      go_wp2_with fail
      go_ret2
      exact ⟨rfl, B1.out⟩
    · have hb : mdB we ho day me = false := by unfold mdB; rw [hNE, hNV]; simp; omega
      have R1 : Hid (mdV we ho day me = pvV we ho day) := Lib.hid (by unfold mdV; rw [hb]; rfl)
      have R2 : Hid (mdE we ho day me = pvE we ho day) := Lib.hid (by unfold mdE; rw [hb]; rfl)
      rw [R1.out, R2.out]
      have h2' : me < NV := by omega
      clear hb hNV hNE b2
      go_enter Tryd.func45, Tryd.ntmps45
      go_wp2_with fail
      refine (C1.out _ (HC.out.keep (bal (bref _) _))).mono ?_
      rintro e w1 ⟨rfl, q1⟩
      obtain ⟨x0, x1, x2⟩ := HX.out.keep q1
      have B1 := Lib.hid (btr (bal (bref _) _) q1)
      clear q1
      go_wp2_with fail
      refine (C3.out _ (HL.out.keep B1.out)).mono ?_
      rintro e w2 ⟨rfl, rfl⟩
      go_wp2_with fail
      refine (C2.out _ (HC.out.keep B1.out)).mono ?_
      rintro e w2 ⟨rfl, q2⟩
      have B2 := Lib.hid (btr B1.out q2)
      clear q2
      go_wp2_with fail
      go_ret2
      exact ⟨rfl, B2.out⟩
  · have hb : mdB we ho day me = false := by unfold mdB; rw [hNE]; simp [h1]
    have R1 : Hid (mdV we ho day me = pvV we ho day) := Lib.hid (by unfold mdV; rw [hb]; rfl)
    have R2 : Hid (mdE we ho day me = pvE we ho day) := Lib.hid (by unfold mdE; rw [hb]; rfl)
    rw [R1.out, R2.out]
    have h1' : (NE == 0) = false := by rw [beq_eq_false_iff_ne]; exact h1
    clear hb hNV hNE b2
    go_enter Tryd.func45, Tryd.ntmps45
    go_wp2_with fail
    refine (C1.out _ (HC.out.keep (bal (bref _) _))).mono ?_
    rintro e w1 ⟨rfl, q1⟩
    obtain ⟨x0, x1, x2⟩ := HX.out.keep q1
    have B1 := Lib.hid (btr (bal (bref _) _) q1)
    clear q1
    go_wp2_with fail
    refine (C2.out _ (HC.out.keep B1.out)).mono ?_
    rintro e w2 ⟨rfl, q2⟩
    have B2 := Lib.hid (btr B1.out q2)
    clear q2
    go_wp2_with fail
    go_ret2
    exact ⟨rfl, B2.out⟩

set_option maxRecDepth 100000 in
set_option maxHeartbeats 1000000 in
theorem mAdjust (nm : ByteArray) (wo hp : Option Addr) (wc hc : Nat) (we ho : List Int) (day me rule : Int) (hme : vdB day = true → MEnd day me) (w : World) (hL : Ln w) (hc0 : CalAt wo hp we ho w) :
    Calls Tryd.prog 24 #[.agg #[.string nm, .slice wo we.length wc, .slice hp ho.length hc], .int .i64 day, .int .i64 rule] w fun e w' => e = .returned (.tuple #[.int .i64 (ajV we ho day me rule), .int .i64 (ajE we ho day me rule)]) ∧ Below w.heap.size w w' := by
  have CV := fun W => mvalid day W
  cases hv : vdB day
  · have R1 : Hid (ajV we ho day me rule = 0) := Lib.hid (by unfold ajV; rw [hv]; rfl)
    have R2 : Hid (ajE we ho day me rule = 1) := Lib.hid (by unfold ajE; rw [hv]; rfl)
    rw [R1.out, R2.out]
    rw [hv] at CV
    have CV := Lib.hid CV
    clear hv hc0 hL hme
    go_enter Tryd.func24, Tryd.ntmps24
    go_wp2_with fail
    refine (CV.out _).mono ?_
    rintro e w1 ⟨rfl, rfl⟩
    go_wp2_with fail
    go_ret2
    exact ⟨rfl, bal (bref _) _⟩
  · have hme := hme hv
    rw [hv] at CV
    have CV := Lib.hid CV
    have HC := Lib.hid hc0
    have HL := Lib.hid hL
    have HX := Lib.hid (box_new nm wo hp wc hc we ho w)
    by_cases r0 : rule = 0
    · subst r0
      have R1 : Hid (ajV we ho day me 0 = day) := Lib.hid (by unfold ajV; rw [hv]; rfl)
      have R2 : Hid (ajE we ho day me 0 = 0) := Lib.hid (by unfold ajE; rw [hv]; rfl)
      rw [R1.out, R2.out]
      clear hv hc0 hL hme
      go_enter Tryd.func24, Tryd.ntmps24
      go_wp2_with fail
      refine (CV.out _).mono ?_
      rintro e w1 ⟨rfl, rfl⟩
      go_wp2_with fail
      go_ret2
      exact ⟨rfl, bal (bref _) _⟩
    by_cases r1 : rule = 1
    · subst r1
      have R1 : Hid (ajV we ho day me 1 = nxV we ho day) := Lib.hid (by unfold ajV; rw [hv]; rfl)
      have R2 : Hid (ajE we ho day me 1 = nxE we ho day) := Lib.hid (by unfold ajE; rw [hv]; rfl)
      rw [R1.out, R2.out]
      have C1 := Lib.hid (fun W h => mNext nm wo hp wc hc we ho day W h)
      clear hv hc0 hL hme
      go_enter Tryd.func24, Tryd.ntmps24
      go_wp2_with fail
      refine (CV.out _).mono ?_
      rintro e w1 ⟨rfl, rfl⟩
      go_wp2_with fail
      refine (C1.out _ (HC.out.keep (bal (bref _) _))).mono ?_
      rintro e w1 ⟨rfl, q1⟩
      have B1 := Lib.hid (btr (bal (bref _) _) q1)
      clear q1
      go_wp2_with fail
      go_ret2
      exact ⟨rfl, B1.out⟩
    by_cases r3 : rule = 3
    · subst r3
      have R1 : Hid (ajV we ho day me 3 = pvV we ho day) := Lib.hid (by unfold ajV; rw [hv]; rfl)
      have R2 : Hid (ajE we ho day me 3 = pvE we ho day) := Lib.hid (by unfold ajE; rw [hv]; rfl)
      rw [R1.out, R2.out]
      have C1 := Lib.hid (fun W h => mPrev nm wo hp wc hc we ho day W h)
      clear hv hc0 hL hme
      go_enter Tryd.func24, Tryd.ntmps24
      go_wp2_with fail
      refine (CV.out _).mono ?_
      rintro e w1 ⟨rfl, rfl⟩
      go_wp2_with fail
      refine (C1.out _ (HC.out.keep (bal (bref _) _))).mono ?_
      rintro e w1 ⟨rfl, q1⟩
      have B1 := Lib.hid (btr (bal (bref _) _) q1)
      clear q1
      go_wp2_with fail
      go_ret2
      exact ⟨rfl, B1.out⟩
    by_cases r2 : rule = 2
    · subst r2
      have R1 : Hid (ajV we ho day me 2 = mdV we ho day me) := Lib.hid (by unfold ajV; rw [hv]; rfl)
      have R2 : Hid (ajE we ho day me 2 = mdE we ho day me) := Lib.hid (by unfold ajE; rw [hv]; rfl)
      rw [R1.out, R2.out]
      have C1 := Lib.hid (fun W h k => mMod nm wo hp wc hc we ho day me hme W h k)
      clear hv hc0 hL hme
      go_enter Tryd.func24, Tryd.ntmps24
      go_wp2_with fail
      refine (CV.out _).mono ?_
      rintro e w1 ⟨rfl, rfl⟩
      go_wp2_with fail
      refine (C1.out _ (HL.out.keep (bal (bref _) _)) (HC.out.keep (bal (bref _) _))).mono ?_
      rintro e w1 ⟨rfl, q1⟩
      have B1 := Lib.hid (btr (bal (bref _) _) q1)
      clear q1
      go_wp2_with fail
      go_ret2
      exact ⟨rfl, B1.out⟩
    have R1 : Hid (ajV we ho day me rule = 0) := Lib.hid (by unfold ajV; rw [hv, if_pos rfl, if_neg r0, if_neg r1, if_neg r2, if_neg r3])
    have R2 : Hid (ajE we ho day me rule = 1) := Lib.hid (by unfold ajE; rw [hv, if_pos rfl, if_neg r0, if_neg r1, if_neg r2, if_neg r3])
    rw [R1.out, R2.out]
    clear hv hc0 hL hme
    have s0 : (rule == 0) = false := by rw [beq_eq_false_iff_ne]; exact r0
    have s1 : (rule == 1) = false := by rw [beq_eq_false_iff_ne]; exact r1
    have s2 : (rule == 2) = false := by rw [beq_eq_false_iff_ne]; exact r2
    have s3 : (rule == 3) = false := by rw [beq_eq_false_iff_ne]; exact r3
    go_enter Tryd.func24, Tryd.ntmps24
    go_wp2_with fail
    refine (CV.out _).mono ?_
    rintro e w1 ⟨rfl, rfl⟩
    go_wp2_with fail
    go_ret2
    exact ⟨rfl, bal (bref _) _⟩

set_option maxRecDepth 100000 in
set_option maxHeartbeats 1000000 in
theorem rAdjust (nm : ByteArray) (wo hp : Option Addr) (wc hc : Nat) (we ho : List Int) (day me rule : Int) (hme : vdB day = true → MEnd day me) (w : World) (hL : Ln w) (hc0 : CalAt wo hp we ho w) :
    Calls Tryd.prog 25 #[.agg #[.string nm, .slice wo we.length wc, .slice hp ho.length hc], .int .i64 day, .int .i64 rule] w fun e w' => e = .returned (.tuple #[.int .i64 (ajV we ho day me rule), .int .i64 (ajE we ho day me rule)]) ∧ Below w.heap.size w w' := by
  have CV := fun W => rvalid day W
  cases hv : vdB day
  · have R1 : Hid (ajV we ho day me rule = 0) := Lib.hid (by unfold ajV; rw [hv]; rfl)
    have R2 : Hid (ajE we ho day me rule = 1) := Lib.hid (by unfold ajE; rw [hv]; rfl)
    rw [R1.out, R2.out]
    rw [hv] at CV
    have CV := Lib.hid CV
    clear hv hc0 hL hme
    go_enter Tryd.func25, Tryd.ntmps25
    go_wp2_with fail
    refine (CV.out _).mono ?_
    rintro e w1 ⟨rfl, rfl⟩
    go_wp2_with fail
    go_ret2
    exact ⟨rfl, bal (bref _) _⟩
  · have hme := hme hv
    rw [hv] at CV
    have CV := Lib.hid CV
    have HC := Lib.hid hc0
    have HL := Lib.hid hL
    have HX := Lib.hid (box_new nm wo hp wc hc we ho w)
    by_cases r0 : rule = 0
    · subst r0
      have R1 : Hid (ajV we ho day me 0 = day) := Lib.hid (by unfold ajV; rw [hv]; rfl)
      have R2 : Hid (ajE we ho day me 0 = 0) := Lib.hid (by unfold ajE; rw [hv]; rfl)
      rw [R1.out, R2.out]
      clear hv hc0 hL hme
      go_enter Tryd.func25, Tryd.ntmps25
      go_wp2_with fail
      refine (CV.out _).mono ?_
      rintro e w1 ⟨rfl, rfl⟩
      go_wp2_with fail
      go_ret2
      exact ⟨rfl, bal (bref _) _⟩
    by_cases r1 : rule = 1
    · subst r1
      have R1 : Hid (ajV we ho day me 1 = nxV we ho day) := Lib.hid (by unfold ajV; rw [hv]; rfl)
      have R2 : Hid (ajE we ho day me 1 = nxE we ho day) := Lib.hid (by unfold ajE; rw [hv]; rfl)
      rw [R1.out, R2.out]
      have C1 := Lib.hid (fun W h => rNext nm wo hp wc hc we ho day W h)
      clear hv hc0 hL hme
      go_enter Tryd.func25, Tryd.ntmps25
      go_wp2_with fail
      refine (CV.out _).mono ?_
      rintro e w1 ⟨rfl, rfl⟩
      go_wp2_with fail
      refine (C1.out _ (HC.out.keep (bal (bref _) _))).mono ?_
      rintro e w1 ⟨rfl, q1⟩
      have B1 := Lib.hid (btr (bal (bref _) _) q1)
      clear q1
      go_wp2_with fail
      go_ret2
      exact ⟨rfl, B1.out⟩
    by_cases r3 : rule = 3
    · subst r3
      have R1 : Hid (ajV we ho day me 3 = pvV we ho day) := Lib.hid (by unfold ajV; rw [hv]; rfl)
      have R2 : Hid (ajE we ho day me 3 = pvE we ho day) := Lib.hid (by unfold ajE; rw [hv]; rfl)
      rw [R1.out, R2.out]
      have C1 := Lib.hid (fun W h => rPrev nm wo hp wc hc we ho day W h)
      clear hv hc0 hL hme
      go_enter Tryd.func25, Tryd.ntmps25
      go_wp2_with fail
      refine (CV.out _).mono ?_
      rintro e w1 ⟨rfl, rfl⟩
      go_wp2_with fail
      refine (C1.out _ (HC.out.keep (bal (bref _) _))).mono ?_
      rintro e w1 ⟨rfl, q1⟩
      have B1 := Lib.hid (btr (bal (bref _) _) q1)
      clear q1
      go_wp2_with fail
      go_ret2
      exact ⟨rfl, B1.out⟩
    by_cases r2 : rule = 2
    · subst r2
      have R1 : Hid (ajV we ho day me 2 = mdV we ho day me) := Lib.hid (by unfold ajV; rw [hv]; rfl)
      have R2 : Hid (ajE we ho day me 2 = mdE we ho day me) := Lib.hid (by unfold ajE; rw [hv]; rfl)
      rw [R1.out, R2.out]
      obtain ⟨y, m, d, hC, rfl⟩ := hme
      obtain ⟨b0, b1, b2⟩ := nx_bd we ho day
      have C1 := fun W h => rNext nm wo hp wc hc we ho day W h
      have C2 := Lib.hid (fun W h => rPrev nm wo hp wc hc we ho day W h)
      have C3 := fun W => rend day y m d hC W
      obtain ⟨me, hme⟩ : ∃ me, day + lenI y m - d = me := ⟨_, rfl⟩
      rw [hme]
      simp only [hme] at C3
      have C3 := Lib.hid C3
      obtain ⟨NV, hNV⟩ : ∃ NV, nxV we ho day = NV := ⟨_, rfl⟩
      obtain ⟨NE, hNE⟩ : ∃ NE, nxE we ho day = NE := ⟨_, rfl⟩
      simp only [hNV, hNE] at C1
      rw [hNV] at b0 b1
      rw [hNE] at b2
      have C1 := Lib.hid C1
      clear hme hC hc0 hL hv R1 R2
      by_cases h1 : NE = 0
      · subst h1
        by_cases h2 : NV ≤ me
        · have hb : mdB we ho day me = true := by unfold mdB; rw [hNE, hNV]; simp [h2]
          have R1 : Hid (mdV we ho day me = NV) := Lib.hid (by unfold mdV; rw [if_pos hb, hNV])
          have R2 : Hid (mdE we ho day me = 0) := Lib.hid (by unfold mdE; rw [if_pos hb])
          rw [R1.out, R2.out]
          clear hb hNV hNE b2
          go_enter Tryd.func25, Tryd.ntmps25
          go_wp2_with fail
          refine (CV.out _).mono ?_
          rintro e w1 ⟨rfl, rfl⟩
          go_wp2_with fail
          refine (C1.out _ (HC.out.keep (bal (bref _) _))).mono ?_
          rintro e w1 ⟨rfl, q1⟩
          obtain ⟨x0, x1, x2⟩ := HX.out.keep q1
          have B1 := Lib.hid (btr (bal (bref _) _) q1)
          clear q1
          go_wp2_with fail
          refine (C3.out _).mono ?_
          rintro e w2 ⟨rfl, rfl⟩
          go_wp2_with fail
          go_ret2
          exact ⟨rfl, B1.out⟩
        · have hb : mdB we ho day me = false := by unfold mdB; rw [hNE, hNV]; simp; omega
          have R1 : Hid (mdV we ho day me = pvV we ho day) := Lib.hid (by unfold mdV; rw [hb]; rfl)
          have R2 : Hid (mdE we ho day me = pvE we ho day) := Lib.hid (by unfold mdE; rw [hb]; rfl)
          rw [R1.out, R2.out]
          clear hb hNV hNE b2
          go_enter Tryd.func25, Tryd.ntmps25
          go_wp2_with fail
          refine (CV.out _).mono ?_
          rintro e w1 ⟨rfl, rfl⟩
          go_wp2_with fail
          refine (C1.out _ (HC.out.keep (bal (bref _) _))).mono ?_
          rintro e w1 ⟨rfl, q1⟩
          obtain ⟨x0, x1, x2⟩ := HX.out.keep q1
          have B1 := Lib.hid (btr (bal (bref _) _) q1)
          clear q1
          go_wp2_with fail
          refine (C3.out _).mono ?_
          rintro e w2 ⟨rfl, rfl⟩
          go_wp2_with fail
          refine (C2.out _ (HC.out.keep B1.out)).mono ?_
          rintro e w2 ⟨rfl, q2⟩
          have B2 := Lib.hid (btr B1.out q2)
          clear q2
          go_wp2_with fail
          go_ret2
          exact ⟨rfl, B2.out⟩
      · have hb : mdB we ho day me = false := by unfold mdB; rw [hNE]; simp [h1]
        have R1 : Hid (mdV we ho day me = pvV we ho day) := Lib.hid (by unfold mdV; rw [hb]; rfl)
        have R2 : Hid (mdE we ho day me = pvE we ho day) := Lib.hid (by unfold mdE; rw [hb]; rfl)
        rw [R1.out, R2.out]
        have h1' : (NE == 0) = false := by rw [beq_eq_false_iff_ne]; exact h1
        clear hb hNV hNE b2
        go_enter Tryd.func25, Tryd.ntmps25
        go_wp2_with fail
        refine (CV.out _).mono ?_
        rintro e w1 ⟨rfl, rfl⟩
        go_wp2_with fail
        refine (C1.out _ (HC.out.keep (bal (bref _) _))).mono ?_
        rintro e w1 ⟨rfl, q1⟩
        obtain ⟨x0, x1, x2⟩ := HX.out.keep q1
        have B1 := Lib.hid (btr (bal (bref _) _) q1)
        clear q1
        go_wp2_with fail
        refine (C2.out _ (HC.out.keep B1.out)).mono ?_
        rintro e w2 ⟨rfl, q2⟩
        have B2 := Lib.hid (btr B1.out q2)
        clear q2
        go_wp2_with fail
        go_ret2
        exact ⟨rfl, B2.out⟩
    have R1 : Hid (ajV we ho day me rule = 0) := Lib.hid (by unfold ajV; rw [hv, if_pos rfl, if_neg r0, if_neg r1, if_neg r2, if_neg r3])
    have R2 : Hid (ajE we ho day me rule = 1) := Lib.hid (by unfold ajE; rw [hv, if_pos rfl, if_neg r0, if_neg r1, if_neg r2, if_neg r3])
    rw [R1.out, R2.out]
    clear hv hc0 hL hme
    by_cases rn : rule < 0
    · go_enter Tryd.func25, Tryd.ntmps25
      go_wp2_with fail
      refine (CV.out _).mono ?_
      rintro e w1 ⟨rfl, rfl⟩
      go_wp2_with fail
      go_ret2
      exact ⟨rfl, bal (bref _) _⟩
    · have r4 : 3 < rule := by omega
      go_enter Tryd.func25, Tryd.ntmps25
      go_wp2_with fail
      refine (CV.out _).mono ?_
      rintro e w1 ⟨rfl, rfl⟩
      go_wp2_with fail
      go_ret2
      exact ⟨rfl, bal (bref _) _⟩
end Go.Proofs.YtgljaopnehdgdaaDoor
