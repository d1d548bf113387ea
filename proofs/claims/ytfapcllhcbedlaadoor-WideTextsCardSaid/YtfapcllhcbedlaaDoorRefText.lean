/-
  The contract of the document's own Text.
-/
import Derived.Test.YtfapcllhcbedlaaDoorRefQ
import Derived.Test.YtfapcllhcbedlaaDoorTextMath
import Derived.Test.YtfapcllhcbedlaaDoorWalkE
import Derived.WalkSpells
namespace Go.Proofs.YtfapcllhcbedlaaDoor
open Go Go.RowKit Go.Lib WM

/-- What holds at the head of each round: m is left, the digits s are written. -/
def XRel (M : Nat) (w w1 : World) (g : Nat) (v5 : Value) (wr : World) : Prop :=
  ∃ (m : Nat) (s : List UInt8), g = (if m = 0 ∧ s ≠ [] then 0 else m + 1) ∧ v5 = .string (str s) ∧ TextAt M m s ∧ s.length ≤ 39 ∧ m < 340282366920938463463374607431768211456 ∧
    Own wr w1.heap.size (.int .u64 (mH m)) (.int .u64 (mL m)) ∧ Below w.heap.size w wr

theorem str_cons (c : UInt8) (s : List UInt8) : (⟨#[c]⟩ : ByteArray) ++ str s = str (c :: s) := str_app [c] s
theorem str_isEmpty (s : List UInt8) : (str s).toList.isEmpty = s.isEmpty := by rw [Lib.toList_data, str_list']
where str_list' : (str s).data.toList = s := by simp [str]

set_option maxRecDepth 100000 in
set_option maxHeartbeats 4000000 in
theorem rtext_loop (M : Nat) (b : Bool) (a l : Int) (hM : M < 340282366920938463463374607431768211456) (w : World)
    (P1 : ∀ W, Calls Tryd.prog 56 #[.agg #[.int .i64 a, .int .u64 l]] W fun e w' => e = .returned (.tuple #[.bool b, .agg #[.int .u64 (mH M), .int .u64 (mL M)]]) ∧ Below W.heap.size W w') :
    Calls Tryd.prog 38 #[.agg #[.int .i64 a, .int .u64 l]] w fun e w' =>
      e = .returned (.string (str (if b then 45 :: decDigits M else decDigits M))) ∧ Below w.heap.size w w' := by
  have P1 := Lib.hid P1
  have HM := Lib.hid hM
  clear hM
  go_enter Tryd.func38, Tryd.ntmps38
  go_wp2_with fail
  refine (P1.out _).mono ?_
  rintro e w1 ⟨rfl, q1⟩
  have Z1 := btr (bal (bref w) _) q1
  have s1 : w.heap.size < w1.heap.size := by have := q1.size; simp at this; omega
  clear q1
  go_wp2_with fail
  go_loopg [5] (M + 1) (fun g v5 wr => XRel M w w1 g v5 wr)
  case atStart =>
    exact ⟨M, [], by simp, rfl, text_start M, by simp, HM.out, Own.new _ _ _ _, bal Z1 _⟩
  case round =>
    obtain ⟨m, s, hg, rfl, hT, hlen, hm, hO, hB⟩ := hrel
    obtain ⟨wo, rfl⟩ : ∃ wo : World, wo = wr := ⟨_, rfl⟩
    obtain ⟨o0, o1, o2, o3⟩ := hO
    have hO : Own wo w1.heap.size (.int .u64 (mH m)) (.int .u64 (mL m)) := ⟨o0, o1, o2, o3⟩
    have hmU : U64 (mH (m : Int)) := mH_U64 (by omega) (by omega)
    have Q := fun W => rquot_any (mH m) (mL m) 10 hmU (mL_U64 _) (by omega) (by omega) W
    simp only [val_mag] at Q
    have hsz : (str s).size ≤ 39 := by rw [str_size]; exact hlen
    obtain ⟨r, hr⟩ : ∃ r : Nat, (m : Int) % 10 = (r : Int) := ⟨m % 10, by omega⟩
    obtain ⟨d, hd⟩ : ∃ d : Nat, (m : Int) / 10 = (d : Int) := ⟨m / 10, by omega⟩
    have hr9 : (r : Int) ≤ 9 := by omega
    have hr0 : 0 ≤ (r : Int) := by omega
    simp only [hr, hd] at Q
    have Q := Lib.hid Q
    obtain ⟨S, hS⟩ : ∃ S, str s = S := ⟨_, rfl⟩
    have hemp : S.toList.isEmpty = s.isEmpty := by rw [← hS]; exact str_isEmpty s
    rw [hS] at hsz
    simp only [hS]
    rcases text_more hT with hgo | ⟨h1, h2, h3⟩
    · have hcase : (S.toList.isEmpty = true) ∨ (S.toList.isEmpty = false ∧ 0 < mH (m : Int)) ∨ (S.toList.isEmpty = false ∧ ¬ 0 < mH (m : Int) ∧ 0 < mL (m : Int)) := by
        rw [hemp]
        cases hq : s.isEmpty
        · have hne : s ≠ [] := by intro h; rw [h] at hq; simp at hq
          have hm1 : 1 ≤ m := by rcases hgo with h | h; exact absurd h hne; exact h
          by_cases c : 0 < mH (m : Int)
          · exact Or.inr (Or.inl ⟨rfl, c⟩)
          · exact Or.inr (Or.inr ⟨rfl, c, by unfold mH mL at *; omega⟩)
        · exact Or.inl rfl
      have HG := Lib.hid hgo; have HT := Lib.hid hT; have HS := Lib.hid hS; have HR := Lib.hid hr; have HDD := Lib.hid hd; have HGK := Lib.hid hg
      clear hgo hT hS hr hd hg hemp
      rcases hcase with e1 | ⟨e1, e2⟩ | ⟨e1, e2, e3⟩
      · go_wp2_with fail
        refine (Q.out _).mono ?_
        rintro e w2 ⟨rfl, q2⟩
        have O2 := hO.keep q2
        have B2 := btr hB q2
        have s2 := O2.lt
        have sB := hB.size
        clear hO hB q2 o0 o1 o2 o3
        have OX := O2
        obtain ⟨o0, o1, o2, o3⟩ := OX
        go_wp2_with fail
        go_roundg (if d = 0 then 0 else d + 1)
        case measure => have h1 := HGK.out; have h2 := HDD.out; have h3 := HG.out; rw [h1]; split <;> split <;> (try omega) <;> (rename_i u v; rcases h3 with h3 | h3 <;> simp_all <;> omega)
        case rel =>
          have hd2 : d = m / 10 := by have := HDD.out; omega
          have hr2 : r = m % 10 := by have := HR.out; omega
          have hst := text_step HT.out HG.out
          refine ⟨d, UInt8.ofNat (48 + r) :: s, by simp, ?_, by rw [hd2, hr2]; exact hst, ?_, by omega, ?_, ?_⟩
          · rw [ten_piece r (by omega), ← HS.out, str_cons]
          · rw [hr2]; exact text_len hst HM.out
          · exact (O2.put _ _).al _
          · exact bal (bset (bset B2 (by dsimp only; omega) _) (by dsimp only; omega) _) _
      · go_wp2_with fail
        refine (Q.out _).mono ?_
        rintro e w2 ⟨rfl, q2⟩
        have O2 := hO.keep q2
        have B2 := btr hB q2
        have s2 := O2.lt
        have sB := hB.size
        clear hO hB q2 o0 o1 o2 o3
        have OX := O2
        obtain ⟨o0, o1, o2, o3⟩ := OX
        go_wp2_with fail
        go_roundg (if d = 0 then 0 else d + 1)
        case measure => have h1 := HGK.out; have h2 := HDD.out; have h3 := HG.out; rw [h1]; split <;> split <;> (try omega) <;> (rename_i u v; rcases h3 with h3 | h3 <;> simp_all <;> omega)
        case rel =>
          have hd2 : d = m / 10 := by have := HDD.out; omega
          have hr2 : r = m % 10 := by have := HR.out; omega
          have hst := text_step HT.out HG.out
          refine ⟨d, UInt8.ofNat (48 + r) :: s, by simp, ?_, by rw [hd2, hr2]; exact hst, ?_, by omega, ?_, ?_⟩
          · rw [ten_piece r (by omega), ← HS.out, str_cons]
          · rw [hr2]; exact text_len hst HM.out
          · exact (O2.put _ _).al _
          · exact bal (bset (bset B2 (by dsimp only; omega) _) (by dsimp only; omega) _) _
      · go_wp2_with fail
        refine (Q.out _).mono ?_
        rintro e w2 ⟨rfl, q2⟩
        have O2 := hO.keep q2
        have B2 := btr hB q2
        have s2 := O2.lt
        have sB := hB.size
        clear hO hB q2 o0 o1 o2 o3
        have OX := O2
        obtain ⟨o0, o1, o2, o3⟩ := OX
        go_wp2_with fail
        go_roundg (if d = 0 then 0 else d + 1)
        case measure => have h1 := HGK.out; have h2 := HDD.out; have h3 := HG.out; rw [h1]; split <;> split <;> (try omega) <;> (rename_i u v; rcases h3 with h3 | h3 <;> simp_all <;> omega)
        case rel =>
          have hd2 : d = m / 10 := by have := HDD.out; omega
          have hr2 : r = m % 10 := by have := HR.out; omega
          have hst := text_step HT.out HG.out
          refine ⟨d, UInt8.ofNat (48 + r) :: s, by simp, ?_, by rw [hd2, hr2]; exact hst, ?_, by omega, ?_, ?_⟩
          · rw [ten_piece r (by omega), ← HS.out, str_cons]
          · rw [hr2]; exact text_len hst HM.out
          · exact (O2.put _ _).al _
          · exact bal (bset (bset B2 (by dsimp only; omega) _) (by dsimp only; omega) _) _
    · subst h2 h3
      have e1 : S.toList.isEmpty = false := by
        rw [hemp]
        cases hq : (decDigits M).isEmpty
        · rfl
        · exact absurd (by simpa using hq) (dec_ne M)
      have e2 : mH ((0 : Nat) : Int) = 0 := by decide
      have e3 : mL ((0 : Nat) : Int) = 0 := by decide
      rw [e2] at o0 hmU; rw [e3] at o1
      have HS := Lib.hid hS
      clear hS hT hr hd hg hemp h1 e2 e3 hO hmU Q
      cases b
      · go_wp2_with fail
        go_ret
        exact ⟨by rw [← HS.out]; rfl, hB⟩
      · have HC : Hid ((⟨#[45]⟩ : ByteArray) ++ S = str (45 :: decDigits M)) := Lib.hid (by rw [← HS.out, str_cons])
        go_wp2_with fail
        go_ret
        exact ⟨by rw [← HC.out]; rfl, hB⟩

theorem rtext_any (a l : Int) (hh : I64 a) (hl : U64 l) (w : World) :
    Calls Tryd.prog 38 #[.agg #[.int .i64 a, .int .u64 l]] w fun e w' => e = .returned (.string (str (itoa (val a l)))) ∧ Below w.heap.size w w' := by
  obtain ⟨b0, b1⟩ := absW_U hh hl
  obtain ⟨M, hM⟩ : ∃ M : Nat, absW (val a l) = (M : Int) := ⟨(absW (val a l)).toNat, by omega⟩
  have hn := neg_h (h := a) hl
  have P1 := fun W => rsplit_any a l hh hl W
  rw [hM] at P1
  refine (rtext_loop M (decide (a < 0)) a l (by omega) w P1).mono ?_
  rintro e w' ⟨rfl, hb⟩
  refine ⟨?_, hb⟩
  congr 3
  unfold itoa
  unfold absW at hM
  by_cases c : val a l < 0
  · rw [if_pos c] at hM ⊢
    rw [if_pos (by simpa using hn.2 c), show (val a l).natAbs = M by omega]
  · rw [if_neg c] at hM ⊢
    rw [if_neg (by simpa using fun h => c (hn.1 h)), show (val a l).toNat = M by omega]
end Go.Proofs.YtfapcllhcbedlaaDoor
