/-
  Day counts, plain: the civil date of a day as functions, 30E/360, weights, sums, interest.
-/
import Derived.Test.YtnhealjngkhinaaDoorDM
namespace Go.Proofs.YtnhealjngkhinaaDoor.WM
open Go Go.RowKit Go.Lib

/-- The year, the month and the day of the month of a day. -/
def cY (day : Int) : Int := if day < ny (2000 + day / 365) then 2000 + day / 365 - 1 else 2000 + day / 365
def moF (y r : Int) : Nat → Int
  | 0 => 1
  | k + 1 => if cum y ((k : Int) + 2) ≤ r then (k : Int) + 2 else moF y r k
def cM (day : Int) : Int := moF (cY day) (day - ny (cY day)) 11
def cD (day : Int) : Int := day - ny (cY day) - cum (cY day) (cM day) + 1

theorem moF_eq (y r m : Int) (h0 : 1 ≤ m) (ha : cum y m ≤ r) (hb : r < cum y (m + 1)) : ∀ k : Nat, m ≤ (k : Int) + 1 → moF y r k = m := by
  intro k
  induction k with
  | zero => intro h; show (1 : Int) = m; omega
  | succ k ih =>
    intro h
    show (if cum y ((k : Int) + 2) ≤ r then (k : Int) + 2 else moF y r k) = m
    by_cases c : m = (k : Int) + 2
    · rw [← c, if_pos ha]
    · have := cum_mono y (m + 1) ((k : Int) + 2) (by omega)
      rw [if_neg (by omega)]
      exact ih (by omega)
theorem Civ.at {day y m d : Int} (h : Civ day y m d) : cY day = y ∧ cM day = m ∧ cD day = d := by
  have e1 : cY day = y := by
    unfold cY
    rcases h.guess with ⟨a, b⟩ | ⟨a, b⟩
    · rw [if_neg b]; exact a
    · rw [if_pos b]; omega
  have i := h.inYear
  have e2 : cM day = m := by
    unfold cM
    rw [e1]
    exact moF_eq y _ m h.m0 i.2.2.1 i.2.2.2 11 (by have := h.m1; omega)
  refine ⟨e1, e2, ?_⟩
  unfold cD
  rw [e1, e2]
  have := h.sum
  omega
theorem civ_c {day : Int} (h : vdB day = true) : Civ day (cY day) (cM day) (cD day) := by
  obtain ⟨y, m, d, hc⟩ := civ_ex day h
  obtain ⟨a, b, c⟩ := hc.at
  rw [a, b, c]
  exact hc
theorem vd_iff (day : Int) : vdB day = true ↔ 0 ≤ day ∧ day ≤ 73048 := by simp [vdB]
theorem vd_no (day : Int) : vdB day = false ↔ day < 0 ∨ 73048 < day := by
  rw [Bool.eq_false_iff, ne_eq, vd_iff]; omega

/-- A day in its year. -/
theorem in_year {day : Int} (h : vdB day = true) : 2000 ≤ cY day ∧ cY day ≤ 2199 ∧ 1 ≤ cM day ∧ cM day ≤ 12 ∧ 1 ≤ cD day ∧ cD day ≤ 31 ∧ 0 ≤ day - ny (cY day) ∧ day - ny (cY day) < 365 + lp (cY day) := by
  have c := civ_c h
  have i := c.inYear
  have l := len_bd (cY day) (cM day) c.m0 c.m1
  have n := ny_succ (cY day)
  have d1 := c.d1
  exact ⟨c.y0, c.y1, c.m0, c.m1, c.d0, by omega, by omega, by omega⟩
theorem next_year {day : Int} (h : vdB day = true) (h1 : vdB (day + 1) = true) :
    cY (day + 1) = cY day ∨ (cY (day + 1) = cY day + 1 ∧ day + 1 = ny (cY day + 1)) := by
  have a := (civ_c h).inYear
  have b := (civ_c h1).inYear
  by_cases c1 : cY (day + 1) < cY day
  · have := ny_mono (cY (day + 1) + 1) (cY day) (by omega); omega
  · by_cases c2 : cY (day + 1) = cY day
    · exact Or.inl c2
    · have m := ny_mono (cY day + 1) (cY (day + 1)) (by omega)
      refine Or.inr ⟨?_, by omega⟩
      by_cases c3 : cY (day + 1) = cY day + 1
      · exact c3
      · have m2 := ny_mono (cY day + 1 + 1) (cY (day + 1)) (by omega)
        have s := ny_succ (cY day + 1)
        have l := lp_01 (cY day + 1)
        omega

/-- The days of 30E/360 up to a day, but for a constant. -/
def t30 (day : Int) : Int := cY day * 360 + cM day * 30 + min (cD day) 30
def thI (f t : Int) : Int := if vdB f = true ∧ vdB t = true then t30 t - t30 f else 0
theorem t30_bd {day : Int} (h : vdB day = true) : 720000 ≤ t30 day ∧ t30 day ≤ 792200 := by
  have := in_year h; unfold t30; omega
theorem thI_yes {f t : Int} (hf : vdB f = true) (ht : vdB t = true) : thI f t = t30 t - t30 f := by unfold thI; rw [if_pos ⟨hf, ht⟩]
theorem thI_no {f t : Int} (h : vdB f = false ∨ vdB t = false) : thI f t = 0 := by
  unfold thI; rw [if_neg]; rintro ⟨a, b⟩; rcases h with h | h <;> simp_all
theorem thI_bd (f t : Int) : -72200 ≤ thI f t ∧ thI f t ≤ 72200 := by
  by_cases h : vdB f = true ∧ vdB t = true
  · have a := t30_bd h.1; have b := t30_bd h.2; rw [thI_yes h.1 h.2]; omega
  · unfold thI; rw [if_neg h]; omega
theorem thI_opp (f t : Int) : thI t f = -thI f t := by
  unfold thI
  by_cases h : vdB f = true ∧ vdB t = true
  · rw [if_pos h, if_pos ⟨h.2, h.1⟩]; omega
  · rw [if_neg h, if_neg (fun k => h ⟨k.2, k.1⟩)]; omega

/-- The part of a year of one day of a year, actual days. -/
def acI (y : Int) : Int := if leapB y = true then 4380 else 4392
theorem acI_lp (y : Int) : (lp y = 1 ∧ acI y = 4380) ∨ (lp y = 0 ∧ acI y = 4392) := by
  unfold lp acI; split
  · exact Or.inl ⟨rfl, rfl⟩
  · exact Or.inr ⟨rfl, rfl⟩
def csI (b : Int) : Int := if b = 1 then 4453 else if b = 2 then 4392 else 0
def wtI (b day : Int) : Int := if vdB day = true then (if b = 3 then acI (cY day) else if b = 4 then 4453 * thI day (day + 1) else csI b) else 0
theorem csI_bd (b : Int) : csI b = 4453 ∨ csI b = 4392 ∨ csI b = 0 := by
  unfold csI
  split
  · exact Or.inl rfl
  · split
    · exact Or.inr (Or.inl rfl)
    · exact Or.inr (Or.inr rfl)
/-- The part of a year up to a day, actual days, but for a constant. -/
def elI (day : Int) : Int := cY day * 1603080 + (day - ny (cY day)) * acI (cY day)
theorem elI_two {day : Int} (_ : vdB day = true) : (acI (cY day) = 4380 ∧ elI day = cY day * 1603080 + (day - ny (cY day)) * 4380) ∨ (acI (cY day) = 4392 ∧ elI day = cY day * 1603080 + (day - ny (cY day)) * 4392) := by
  unfold elI
  rcases acI_lp (cY day) with ⟨_, a⟩ | ⟨_, a⟩
  · exact Or.inl ⟨a, by rw [a]⟩
  · exact Or.inr ⟨a, by rw [a]⟩
theorem elI_bd {day : Int} (h : vdB day = true) : 3206160000 ≤ elI day ∧ elI day ≤ 3526776000 := by
  have i := in_year h
  rcases acI_lp (cY day) with ⟨l, a⟩ | ⟨l, a⟩ <;> unfold elI <;> rw [a] <;> omega
theorem el_step {day : Int} (h : vdB day = true) (h1 : vdB (day + 1) = true) : elI (day + 1) = elI day + acI (cY day) := by
  have i := in_year h
  unfold elI
  rcases next_year h h1 with e | ⟨e, f⟩
  · rw [e]
    rcases acI_lp (cY day) with ⟨l, a⟩ | ⟨l, a⟩ <;> rw [a] <;> omega
  · rw [e, ← f]
    have s := ny_succ (cY day)
    rw [Int.sub_self, Int.zero_mul]
    rcases acI_lp (cY day) with ⟨l, a⟩ | ⟨l, a⟩ <;> rw [a] <;> omega

/-- The part of a year of a span. -/
def smI (b f t : Int) : Int := if vdB f = true ∧ vdB t = true ∧ f ≤ t then (if b = 3 then elI t - elI f else if b = 4 then 4453 * thI f t else (t - f) * csI b) else 0
theorem smI_no {b f t : Int} (h : vdB f = false ∨ vdB t = false ∨ t < f) : smI b f t = 0 := by
  unfold smI; rw [if_neg]; rintro ⟨a, b, c⟩
  rcases h with h | h | h
  · simp_all
  · simp_all
  · omega
theorem smI_yes {b f t : Int} (hf : vdB f = true) (ht : vdB t = true) (h : f ≤ t) : smI b f t = if b = 3 then elI t - elI f else if b = 4 then 4453 * thI f t else (t - f) * csI b := by
  unfold smI; rw [if_pos ⟨hf, ht, h⟩]
theorem smI_bd (b f t : Int) : -400000000 ≤ smI b f t ∧ smI b f t ≤ 400000000 := by
  unfold smI
  by_cases h : vdB f = true ∧ vdB t = true ∧ f ≤ t
  · rw [if_pos h]
    have a := elI_bd h.1; have c := elI_bd h.2.1; have d := thI_bd f t
    have e := (vd_iff f).1 h.1; have g := (vd_iff t).1 h.2.1; have k := h.2.2
    split
    · omega
    · split
      · omega
      · rcases csI_bd b with q | q | q <;> rw [q] <;> omega
  · rw [if_neg h]; omega
theorem smI_self (b f : Int) : smI b f f = 0 := by
  cases h : vdB f
  · exact smI_no (Or.inl h)
  · rw [smI_yes h h (Int.le_refl f), thI_yes h h]
    split
    · omega
    · split
      · omega
      · rw [Int.sub_self, Int.zero_mul]
theorem smI_add {b f m t : Int} (hf : vdB f = true) (ht : vdB t = true) (h1 : f ≤ m) (h2 : m ≤ t) : smI b f t = smI b f m + smI b m t := by
  have vm : vdB m = true := by rw [vd_iff] at *; omega
  rw [smI_yes hf ht (by omega), smI_yes hf vm h1, smI_yes vm ht h2, thI_yes hf ht, thI_yes hf vm, thI_yes vm ht]
  by_cases c3 : b = 3
  · rw [if_pos c3, if_pos c3, if_pos c3]; omega
  · by_cases c4 : b = 4
    · rw [if_neg c3, if_neg c3, if_neg c3, if_pos c4, if_pos c4, if_pos c4]; omega
    · rw [if_neg c3, if_neg c3, if_neg c3, if_neg c4, if_neg c4, if_neg c4]
      rcases csI_bd b with q | q | q <;> rw [q] <;> omega
theorem smI_one {b d : Int} (h : vdB d = true) (h1 : vdB (d + 1) = true) : smI b d (d + 1) = wtI b d := by
  rw [smI_yes h h1 (by omega)]
  unfold wtI
  rw [if_pos h, el_step h h1]
  split
  · omega
  · split
    · rfl
    · rcases csI_bd b with q | q | q <;> rw [q] <;> omega
theorem smI_step {b f d : Int} (hf : vdB f = true) (h1 : vdB (d + 1) = true) (h : f ≤ d) : smI b f (d + 1) = smI b f d + wtI b d := by
  have vd : vdB d = true := by rw [vd_iff] at *; omega
  rw [smI_add hf h1 h (by omega), smI_one vd h1]
theorem wtI_bd (b d : Int) : -400000000 ≤ wtI b d ∧ wtI b d ≤ 400000000 := by
  unfold wtI
  have t := thI_bd d (d + 1)
  split
  · split
    · rcases acI_lp (cY d) with ⟨_, a⟩ | ⟨_, a⟩ <;> rw [a] <;> omega
    · split
      · omega
      · rcases csI_bd b with q | q | q <;> rw [q] <;> omega
  · omega

/-- A basis. -/
def bsB (b : Int) : Bool := decide (1 ≤ b ∧ b ≤ 4)
/-- What interest accepts. -/
def okB (a p b f t : Int) : Bool := decide (-1000000000000 ≤ a ∧ a ≤ 1000000000000 ∧ 0 ≤ p ∧ p ≤ 1000000 ∧ 1 ≤ b ∧ b ≤ 4 ∧ vdB f = true ∧ vdB t = true ∧ f ≤ t)
theorem ok_iff (a p b f t : Int) : okB a p b f t = true ↔ (-1000000000000 ≤ a ∧ a ≤ 1000000000000 ∧ 0 ≤ p ∧ p ≤ 1000000 ∧ 1 ≤ b ∧ b ≤ 4 ∧ vdB f = true ∧ vdB t = true ∧ f ≤ t) := by simp [okB]
theorem ok_not {a p b f t : Int} (h : ¬ (-1000000000000 ≤ a ∧ a ≤ 1000000000000 ∧ 0 ≤ p ∧ p ≤ 1000000 ∧ 1 ≤ b ∧ b ≤ 4 ∧ vdB f = true ∧ vdB t = true ∧ f ≤ t)) : okB a p b f t = false := by
  rw [Bool.eq_false_iff, ne_eq, ok_iff]; exact h
def inV (a p b f t : Int) : Int := if okB a p b f t = true then a * p * smI b f t else 0
def inE (a p b f t : Int) : Int := if okB a p b f t = true then 0 else 1
theorem in_yes {a p b f t : Int} (h : okB a p b f t = true) : inV a p b f t = a * p * smI b f t ∧ inE a p b f t = 0 := by
  unfold inV inE; rw [h]; exact ⟨rfl, rfl⟩
theorem in_no {a p b f t : Int} (h : okB a p b f t = false) : inV a p b f t = 0 ∧ inE a p b f t = 1 := by
  unfold inV inE; rw [h]; exact ⟨rfl, rfl⟩
theorem mul_bd {x y A B : Int} (hx : -A ≤ x ∧ x ≤ A) (hy : -B ≤ y ∧ y ≤ B) (hA : 0 ≤ A) (hB : 0 ≤ B) : -(A * B) ≤ x * y ∧ x * y ≤ A * B := by
  have h : (x * y).natAbs ≤ A.natAbs * B.natAbs := by
    rw [Int.natAbs_mul]; exact Nat.mul_le_mul (by omega) (by omega)
  have e : (A * B) = ((A.natAbs * B.natAbs : Nat) : Int) := by
    rw [Int.natCast_mul, Int.natAbs_of_nonneg hA, Int.natAbs_of_nonneg hB]
  rw [e]
  omega
theorem in_bd {a p b f t : Int} (h : okB a p b f t = true) : -1000000000000000000 ≤ a * p ∧ a * p ≤ 1000000000000000000 ∧ -400000000000000000000000000 ≤ a * p * smI b f t ∧ a * p * smI b f t ≤ 400000000000000000000000000 := by
  obtain ⟨a0, a1, p0, p1, _⟩ := (ok_iff a p b f t).1 h
  have m := mul_bd (x := a) (y := p) (A := 1000000000000) (B := 1000000) (by omega) (by omega) (by omega) (by omega)
  rw [show (1000000000000 : Int) * 1000000 = 1000000000000000000 by decide] at m
  have s := smI_bd b f t
  have n := mul_bd (x := a * p) (y := smI b f t) (A := 1000000000000000000) (B := 400000000) m s (by omega) (by omega)
  rw [show (1000000000000000000 : Int) * 400000000 = 400000000000000000000000000 by decide] at n
  exact ⟨m.1, m.2, n.1, n.2⟩
end Go.Proofs.YtnhealjngkhinaaDoor.WM
