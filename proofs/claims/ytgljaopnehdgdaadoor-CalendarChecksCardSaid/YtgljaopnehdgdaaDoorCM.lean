/-
  Calendars, plain: open days, the first of them from a day on, how many there are.
-/
import Derived.Test.YtgljaopnehdgdaaDoorDM
namespace Go.Proofs.YtgljaopnehdgdaaDoor.WM
open Go Go.RowKit Go.Lib

def wdI (d : Int) : Int := (d + 5) % 7
/-- A day that is neither on the weekend nor a holiday. -/
def dOpen (we ho : List Int) (d : Int) : Bool := !(we.contains (wdI d)) && !(ho.contains d)
def opB (we ho : List Int) (d : Int) : Bool := vdB d && dOpen we ho d
theorem vd_iff (d : Int) : vdB d = true ↔ (0 ≤ d ∧ d ≤ 73048) := by simp [vdB]
theorem vd_no (d : Int) (h : d < 0 ∨ 73048 < d) : vdB d = false := by
  cases e : vdB d
  · rfl
  · rw [vd_iff] at e; omega
theorem vd_yes (d : Int) (h0 : 0 ≤ d) (h1 : d ≤ 73048) : vdB d = true := (vd_iff d).2 ⟨h0, h1⟩

/-- What is found, as a number and an error. -/
def anV (o : Option Int) : Int := o.getD 0
def anE (o : Option Int) : Int := if o.isSome = true then 0 else 11
theorem an_some (x : Int) : anV (some x) = x ∧ anE (some x) = 0 := ⟨rfl, rfl⟩
theorem an_none : anV none = 0 ∧ anE none = 11 := ⟨rfl, rfl⟩

def upN (p : Int → Bool) (d : Int) : Nat → Option Int
  | 0 => none
  | n + 1 => if p d = true then some d else upN p (d + 1) n
def up (p : Int → Bool) (d : Int) : Option Int := upN p d (73049 - d).toNat
theorem up_end (p : Int → Bool) (d : Int) (h : 73048 < d) : up p d = none := by
  unfold up; rw [show (73049 - d).toNat = 0 by omega]; rfl
theorem up_at (p : Int → Bool) (d : Int) (h : d ≤ 73048) : up p d = if p d = true then some d else up p (d + 1) := by
  unfold up
  rw [show (73049 - d).toNat = (73049 - (d + 1)).toNat + 1 by omega]; rfl
theorem up_hit (p : Int → Bool) (d : Int) (h : d ≤ 73048) (hp : p d = true) : up p d = some d := by rw [up_at p d h, if_pos hp]
theorem up_miss (p : Int → Bool) (d : Int) (h : d ≤ 73048) (hp : p d = false) : up p (d + 1) = up p d := by rw [up_at p d h, if_neg (by rw [hp]; decide)]

def dnN (p : Int → Bool) (d : Int) : Nat → Option Int
  | 0 => none
  | n + 1 => if p d = true then some d else dnN p (d - 1) n
def dn (p : Int → Bool) (d : Int) : Option Int := dnN p d (d + 1).toNat
theorem dn_end (p : Int → Bool) (d : Int) (h : d < 0) : dn p d = none := by
  unfold dn; rw [show (d + 1).toNat = 0 by omega]; rfl
theorem dn_at (p : Int → Bool) (d : Int) (h : 0 ≤ d) : dn p d = if p d = true then some d else dn p (d - 1) := by
  unfold dn
  rw [show (d + 1).toNat = (d - 1 + 1).toNat + 1 by omega]; rfl
theorem dn_hit (p : Int → Bool) (d : Int) (h : 0 ≤ d) (hp : p d = true) : dn p d = some d := by rw [dn_at p d h, if_pos hp]
theorem dn_miss (p : Int → Bool) (d : Int) (h : 0 ≤ d) (hp : p d = false) : dn p (d - 1) = dn p d := by rw [dn_at p d h, if_neg (by rw [hp]; decide)]

/-- The day on which the n-th open day from d on falls. -/
def adN (p : Int → Bool) (d n : Int) : Nat → Option Int
  | 0 => none
  | k + 1 => if (if p d = true then n - 1 else n) = 0 then some d else adN p (d + 1) (if p d = true then n - 1 else n) k
def ad (p : Int → Bool) (d n : Int) : Option Int := adN p d n (73049 - d).toNat
theorem ad_end (p : Int → Bool) (d n : Int) (h : 73048 < d) : ad p d n = none := by
  unfold ad; rw [show (73049 - d).toNat = 0 by omega]; rfl
theorem ad_at (p : Int → Bool) (d n : Int) (h : d ≤ 73048) : ad p d n = if (if p d = true then n - 1 else n) = 0 then some d else ad p (d + 1) (if p d = true then n - 1 else n) := by
  unfold ad
  rw [show (73049 - d).toNat = (73049 - (d + 1)).toNat + 1 by omega]; rfl
theorem ad_hit (p : Int → Bool) (d : Int) (h : d ≤ 73048) (hp : p d = true) : ad p d 1 = some d := by rw [ad_at p d 1 h, if_pos (by rw [if_pos hp]; rfl)]
theorem ad_step (p : Int → Bool) (d n : Int) (h : d ≤ 73048) (hp : p d = true) (hn : n ≠ 1) : ad p (d + 1) (n - 1) = ad p d n := by
  rw [ad_at p d n h, if_pos hp, if_neg (by omega)]
theorem ad_miss (p : Int → Bool) (d n : Int) (h : d ≤ 73048) (hp : p d = false) (hn : n ≠ 0) : ad p (d + 1) n = ad p d n := by
  have e : (if p d = true then n - 1 else n) = n := if_neg (by rw [hp]; decide)
  rw [ad_at p d n h, e, if_neg hn]

/-- How many of the k numbers from d on. -/
def cnN (p : Int → Bool) (d : Int) : Nat → Int
  | 0 => 0
  | k + 1 => (if p d = true then 1 else 0) + cnN p (d + 1) k
def cn (p : Int → Bool) (a b : Int) : Int := cnN p a (b - a).toNat
theorem cn_end (p : Int → Bool) (a b : Int) (h : b ≤ a) : cn p a b = 0 := by
  unfold cn; rw [show (b - a).toNat = 0 by omega]; rfl
theorem cn_at (p : Int → Bool) (a b : Int) (h : a < b) : cn p a b = (if p a = true then 1 else 0) + cn p (a + 1) b := by
  unfold cn
  rw [show (b - a).toNat = (b - (a + 1)).toNat + 1 by omega]; rfl
theorem cn_bd (p : Int → Bool) (a b : Int) : 0 ≤ cn p a b ∧ (a ≤ b → cn p a b ≤ b - a) := by
  have key : ∀ (k : Nat) (d : Int), 0 ≤ cnN p d k ∧ cnN p d k ≤ k := by
    intro k
    induction k with
    | zero => intro d; exact ⟨Int.le_refl 0, Int.le_refl 0⟩
    | succ k ih =>
      intro d
      have := ih (d + 1)
      have e : cnN p d (k + 1) = (if p d = true then 1 else 0) + cnN p (d + 1) k := rfl
      rw [e]
      split <;> omega
  have := key (b - a).toNat a
  unfold cn
  exact ⟨this.1, fun h => by omega⟩
theorem cn_split (p : Int → Bool) (a m b : Int) (h0 : a ≤ m) (h1 : m ≤ b) : cn p a b = cn p a m + cn p m b := by
  obtain ⟨k, hk⟩ : ∃ k : Nat, m = a + k := ⟨(m - a).toNat, by omega⟩
  induction k generalizing a m with
  | zero => rw [show m = a by omega, cn_end p a a (by omega)]; omega
  | succ k ih =>
    rw [cn_at p a b (by omega), cn_at p a m (by omega), ih (a + 1) m (by omega) h1 (by omega)]
    omega
theorem cn_congr (p q : Int → Bool) (a b : Int) (h : ∀ d, a ≤ d → d < b → p d = q d) : cn p a b = cn q a b := by
  obtain ⟨k, hk⟩ : ∃ k : Nat, (b - a).toNat = k := ⟨_, rfl⟩
  induction k generalizing a with
  | zero => rw [cn_end p a b (by omega), cn_end q a b (by omega)]
  | succ k ih =>
    rw [cn_at p a b (by omega), cn_at q a b (by omega), h a (by omega) (by omega), ih (a + 1) (fun d h0 h1 => h d (by omega) h1) (by omega)]
theorem cn_zero (p : Int → Bool) (a b : Int) (h : ∀ d, a ≤ d → d < b → p d = false) : cn p a b = 0 := by
  obtain ⟨k, hk⟩ : ∃ k : Nat, (b - a).toNat = k := ⟨_, rfl⟩
  induction k generalizing a with
  | zero => rw [cn_end p a b (by omega)]
  | succ k ih =>
    rw [cn_at p a b (by omega), h a (by omega) (by omega), ih (a + 1) (fun d h0 h1 => h d (by omega) h1) (by omega)]
    rfl
/-- How many open days a span has. -/
def cntI (p : Int → Bool) (a b : Int) : Int := cn p (max a 0) (min b 73049)
theorem cnt_all (p : Int → Bool) (a b : Int) : cn (fun d => decide (a ≤ d) && (decide (d < b) && p d)) 0 73049 = cntI p a b := by
  unfold cntI
  by_cases h : max a 0 < min b 73049
  · rw [cn_split _ 0 (max a 0) 73049 (by omega) (by omega), cn_split _ (max a 0) (min b 73049) 73049 (by omega) (by omega)]
    rw [cn_zero _ 0 (max a 0) (fun d h0 h1 => by simp; intro h2; omega), cn_zero _ (min b 73049) 73049 (fun d h0 h1 => by simp; intro _ h2; omega)]
    rw [cn_congr _ p (max a 0) (min b 73049) (fun d h0 h1 => by simp [show a ≤ d by omega, show d < b by omega])]
    omega
  · rw [cn_end p _ _ (by omega), cn_zero _ 0 73049 (fun d h0 h1 => by simp; intro h2 h3; omega)]
theorem cnt_add (p : Int → Bool) (a m b : Int) (h0 : a ≤ m) (h1 : m ≤ b) : cntI p a m + cntI p m b = cntI p a b := by
  unfold cntI
  by_cases c1 : max a 0 < min m 73049
  · by_cases c2 : max m 0 < min b 73049
    · rw [show min m 73049 = m by omega, show max m 0 = m by omega, ← cn_split p (max a 0) m (min b 73049) (by omega) (by omega)]
    · rw [cn_end p (max m 0) _ (by omega)]
      by_cases c3 : m ≤ 73049
      · rw [show min b 73049 = min m 73049 by omega]; omega
      · rw [show min b 73049 = min m 73049 by omega]; omega
  · rw [cn_end p (max a 0) (min m 73049) (by omega)]
    by_cases c2 : max m 0 < min b 73049
    · rw [show max m 0 = max a 0 by omega]; omega
    · rw [cn_end p (max m 0) _ (by omega), cn_end p (max a 0) _ (by omega)]; rfl
theorem cnt_bd (p : Int → Bool) (a b : Int) : 0 ≤ cntI p a b ∧ cntI p a b ≤ 73049 := by
  have h := cn_bd p (max a 0) (min b 73049)
  unfold cntI
  by_cases c : max a 0 ≤ min b 73049
  · have := h.2 c; omega
  · rw [cn_end _ _ _ (by omega)]; omega

/-- The n-th open day is one, and n - 1 lie between; if there is none, fewer follow. -/
theorem ad_some (p : Int → Bool) (d n x : Int) (h0 : 0 ≤ d) (hn : 1 ≤ n) (h : ad p d n = some x) : d ≤ x ∧ x ≤ 73048 ∧ p x = true ∧ cn p d x = n - 1 := by
  obtain ⟨k, hk⟩ : ∃ k : Nat, (73049 - d).toNat = k := ⟨_, rfl⟩
  induction k generalizing d n with
  | zero => rw [ad_end p d n (by omega)] at h; cases h
  | succ k ih =>
    cases hp : p d
    · rw [← ad_miss p d n (by omega) hp (by omega)] at h
      obtain ⟨a, b, c, e⟩ := ih (d + 1) n (by omega) hn h (by omega)
      refine ⟨by omega, b, c, ?_⟩
      rw [cn_at p d x (by omega), hp, e]; simp
    · by_cases c1 : n = 1
      · subst c1
        rw [ad_hit p d (by omega) hp] at h
        cases h
        exact ⟨by omega, by omega, hp, by rw [cn_end p _ _ (by omega)]; rfl⟩
      · rw [← ad_step p d n (by omega) hp c1] at h
        obtain ⟨a, b, c, e⟩ := ih (d + 1) (n - 1) (by omega) (by omega) h (by omega)
        refine ⟨by omega, b, c, ?_⟩
        rw [cn_at p d x (by omega), hp, e]; simp; omega
theorem ad_none (p : Int → Bool) (d n : Int) (hn : 1 ≤ n) (h : ad p d n = none) : cn p d 73049 < n := by
  obtain ⟨k, hk⟩ : ∃ k : Nat, (73049 - d).toNat = k := ⟨_, rfl⟩
  induction k generalizing d n with
  | zero => rw [cn_end p d _ (by omega)]; omega
  | succ k ih =>
    rw [cn_at p d _ (by omega)]
    cases hp : p d
    · rw [← ad_miss p d n (by omega) hp (by omega)] at h
      have := ih (d + 1) n hn h (by omega)
      simp; omega
    · by_cases c1 : n = 1
      · subst c1
        rw [ad_hit p d (by omega) hp] at h
        cases h
      · rw [← ad_step p d n (by omega) hp c1] at h
        have := ih (d + 1) (n - 1) (by omega) h (by omega)
        simp; omega

/-- Next, Prev, Add and Adjust: the number and the error. -/
def nxV (we ho : List Int) (d : Int) : Int := if vdB d = true then anV (up (dOpen we ho) d) else 0
def nxE (we ho : List Int) (d : Int) : Int := if vdB d = true then anE (up (dOpen we ho) d) else 1
def pvV (we ho : List Int) (d : Int) : Int := if vdB d = true then anV (dn (dOpen we ho) d) else 0
def pvE (we ho : List Int) (d : Int) : Int := if vdB d = true then anE (dn (dOpen we ho) d) else 1
def adOk (d n : Int) : Bool := vdB d && (decide (1 ≤ n) && decide (n ≤ 1000))
def adV (we ho : List Int) (d n : Int) : Int := if adOk d n = true then anV (ad (dOpen we ho) (d + 1) n) else 0
def adE (we ho : List Int) (d n : Int) : Int := if adOk d n = true then anE (ad (dOpen we ho) (d + 1) n) else 1
end Go.Proofs.YtgljaopnehdgdaaDoor.WM
