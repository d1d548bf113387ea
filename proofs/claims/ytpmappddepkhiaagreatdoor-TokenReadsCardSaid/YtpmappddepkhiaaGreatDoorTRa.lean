/-
  Tokens: contracts of the document's own letter, end, mark, great, Words, Word.
-/
import Derived.Test.YtpmappddepkhiaaGreatDoorTX
namespace Go.Proofs.YtpmappddepkhiaaGreatDoor
open Go Go.RowKit Go.Lib WM TM

theorem rletter (c : UInt8) (w : World) :
    Calls Tryz.prog 36 #[.int .u8 (c.toNat : Int)] w fun e w' => e = .returned (.bool (isL c)) ∧ w = w' := by
  by_cases h1 : (97 : Int) ≤ (c.toNat : Int)
  · by_cases h2 : (c.toNat : Int) ≤ 122
    · have e : isL c = true := by simp only [isL, decide_eq_true_eq]; omega
      rw [e]
      clear e
      go_enter Tryz.func36, Tryz.ntmps36
      go_wp2_with fail
      go_ret
      exact ⟨rfl, rfl⟩
    · have e : isL c = false := by simp only [isL, decide_eq_false_iff_not]; omega
      rw [e]
      clear e
      go_enter Tryz.func36, Tryz.ntmps36
      go_wp2_with fail
      go_ret
      exact ⟨rfl, rfl⟩
  · have e : isL c = false := by simp only [isL, decide_eq_false_iff_not]; omega
    rw [e]
    clear e
    go_enter Tryz.func36, Tryz.ntmps36
    go_wp2_with fail
    go_ret
    exact ⟨rfl, rfl⟩
theorem lb {s : ByteArray} {k : Nat} (h : k < s.size) : k < (byt s).length := by rw [byt_len]; exact h
theorem sp_from (p : UInt8 → Bool) (l : List UInt8) (a k : Nat) (hak : a ≤ k) (hk : k < l.length) (hA : ∀ i, a ≤ i → i < k → ∃ h : i < l.length, p l[i] = true) (hB : p l[k] = false) : a + sp p (l.drop a) = k := by
  have h := sp_at p (l.drop a) (k - a) (by rw [List.length_drop]; omega) (fun j hj => by
    rw [List.getElem_drop]
    exact (hA (a + j) (by omega) (by omega)).2) (by
    rw [List.getElem_drop]
    have : a + (k - a) = k := by omega
    simp only [this]
    exact hB)
  omega
theorem sp_from_end (p : UInt8 → Bool) (l : List UInt8) (a : Nat) (ha : a ≤ l.length) (hA : ∀ i, a ≤ i → i < l.length → ∃ h : i < l.length, p l[i] = true) : a + sp p (l.drop a) = l.length := by
  have h := sp_all p (l.drop a) (fun j hj => by
    rw [List.length_drop] at hj
    rw [List.getElem_drop]
    exact (hA (a + j) (by omega) (by omega)).2)
  rw [List.length_drop] at h
  omega

set_option maxRecDepth 100000 in
set_option maxHeartbeats 8000000 in
theorem rendW (s : ByteArray) (a : Nat) (ha : a ≤ s.size) (hs : s.size ≤ 10000) (w : World) :
    Calls Tryz.prog 37 #[.string s, .int .i64 (a : Int), .bool false] w fun e w' => e = .returned (.int .i64 ((a + sp isW ((byt s).drop a) : Nat) : Int)) ∧ w = w' := by
  have RL := Lib.hid (fun c W => rletter c W)
  have RD := Lib.hid (fun c W => rdigit c W)
  obtain ⟨E, hE⟩ : ∃ E, a + sp isW ((byt s).drop a) = E := ⟨_, rfl⟩
  have HE := Lib.hid hE
  rw [hE]
  clear hE
  go_enter Tryz.func37, Tryz.ntmps37
  go_wp2_with fail
  go_loop [1] (fun i => ∃ (k : Nat), a ≤ k ∧ k ≤ s.size ∧ i = .int .i64 k ∧ ∀ j, a ≤ j → j < k → ∃ h : j < (byt s).length, isW ((byt s)[j]) = true) (fun i => s.size - (RowKit.intOf i).toNat)
  case atStart => exact ⟨a, Nat.le_refl _, ha, rfl, fun j h1 h2 => by omega⟩
  case round =>
    obtain ⟨k, hak, hk, rfl, hall⟩ := hrel
    have HA := Lib.hid hall
    clear hall
    by_cases hlt : k < s.size
    · have hkz : (k : Int) < (s.size : Int) := by omega
      have hg := byt_get s k hlt
      have L1 := RL.out s[k]
      have D1 := RD.out s[k]
      cases hL : isL s[k]
      · rw [hL] at L1
        have L2 := Lib.hid L1
        cases hD : dig s[k]
        · rw [hD] at D1
          have D2 := Lib.hid D1
          by_cases h95 : (s[k].toNat : Int) = 95
          · have hc := (u8_int s[k] 95 (by decide)).1 h95
            have h95t : ((s[k].toNat : Int) == 95) = true := by rw [beq_iff_eq]; exact h95
            have HP : Hid (isW ((byt s)[k]'(lb hlt)) = true) := Lib.hid (by rw [← hg]; exact (congrArg isW hc).trans (by decide))
            clear hg hc L1 D1 hL hD h95
            go_wp2_with fail
            refine (L2.out _).mono ?_
            rintro e w1 ⟨rfl, rfl⟩
            go_wp2_with fail
            refine (D2.out _).mono ?_
            rintro e w1 ⟨rfl, rfl⟩
            go_wp2_with fail
            go_round
            case rel =>
              refine ⟨k + 1, by omega, by omega, by go_num, fun j h1 h2 => ?_⟩
              by_cases hjk : j < k
              · exact HA.out j h1 hjk
              · have : j = k := by omega
                subst this
                exact ⟨(lb hlt), HP.out⟩
            case measure => simp [RowKit.intOf]; omega
          · have h95b : ((s[k].toNat : Int) == 95) = false := by rw [beq_eq_false_iff_ne]; exact h95
            have HQ : Hid (E = k) := Lib.hid (by rw [← HE.out]; exact sp_from isW (byt s) a k hak (lb hlt) HA.out (by show isW s[k] = false; unfold isW; rw [hL, hD]; simp only [Bool.false_or]; rw [beq_eq_false_iff_ne]; intro e; exact h95 ((u8_int s[k] 95 (by decide)).2 e)))
            clear hg L1 D1 hL hD
            go_wp2_with fail
            refine (L2.out _).mono ?_
            rintro e w1 ⟨rfl, rfl⟩
            go_wp2_with fail
            refine (D2.out _).mono ?_
            rintro e w1 ⟨rfl, rfl⟩
            go_wp2_with fail
            go_ret
            exact ⟨by rw [HQ.out]; rfl, rfl⟩
        · rw [hD] at D1
          have D2 := Lib.hid D1
          have HP : Hid (isW ((byt s)[k]'(lb hlt)) = true) := Lib.hid (by rw [← hg]; exact dig_W _ hD)
          clear hg L1 D1 hL hD
          go_wp2_with fail
          refine (L2.out _).mono ?_
          rintro e w1 ⟨rfl, rfl⟩
          go_wp2_with fail
          refine (D2.out _).mono ?_
          rintro e w1 ⟨rfl, rfl⟩
          go_wp2_with fail
          go_round
          case rel =>
            refine ⟨k + 1, by omega, by omega, by go_num, fun j h1 h2 => ?_⟩
            by_cases hjk : j < k
            · exact HA.out j h1 hjk
            · have : j = k := by omega
              subst this
              exact ⟨(lb hlt), HP.out⟩
          case measure => simp [RowKit.intOf]; omega
      · rw [hL] at L1
        have L2 := Lib.hid L1
        have HP : Hid (isW ((byt s)[k]'(lb hlt)) = true) := Lib.hid (by rw [← hg]; exact isL_W _ hL)
        clear hg L1 D1 hL
        go_wp2_with fail
        refine (L2.out _).mono ?_
        rintro e w1 ⟨rfl, rfl⟩
        go_wp2_with fail
        go_round
        case rel =>
          refine ⟨k + 1, by omega, by omega, by go_num, fun j h1 h2 => ?_⟩
          by_cases hjk : j < k
          · exact HA.out j h1 hjk
          · have : j = k := by omega
            subst this
            exact ⟨(lb hlt), HP.out⟩
        case measure => simp [RowKit.intOf]; omega
    · have he : s.size = k := by omega
      have HQ : Hid (E = k) := Lib.hid (by
        rw [← HE.out, ← he, ← byt_len]
        exact sp_from_end isW (byt s) a (by rw [byt_len]; exact ha) (fun i h1 h2 => HA.out i h1 (by rw [byt_len] at h2; omega)))
      have hkz : ¬ (k : Int) < (s.size : Int) := by omega
      clear he
      go_wp2_with fail
      go_ret
      exact ⟨by rw [HQ.out]; rfl, rfl⟩

set_option maxRecDepth 100000 in
set_option maxHeartbeats 8000000 in
theorem rendN (s : ByteArray) (a : Nat) (ha : a ≤ s.size) (hs : s.size ≤ 10000) (w : World) :
    Calls Tryz.prog 37 #[.string s, .int .i64 (a : Int), .bool true] w fun e w' => e = .returned (.int .i64 ((a + sp isN ((byt s).drop a) : Nat) : Int)) ∧ w = w' := by
  have RL := Lib.hid (fun c W => rletter c W)
  have RD := Lib.hid (fun c W => rdigit c W)
  obtain ⟨E, hE⟩ : ∃ E, a + sp isN ((byt s).drop a) = E := ⟨_, rfl⟩
  have HE := Lib.hid hE
  rw [hE]
  clear hE
  go_enter Tryz.func37, Tryz.ntmps37
  go_wp2_with fail
  go_loop [1] (fun i => ∃ (k : Nat), a ≤ k ∧ k ≤ s.size ∧ i = .int .i64 k ∧ ∀ j, a ≤ j → j < k → ∃ h : j < (byt s).length, isN ((byt s)[j]) = true) (fun i => s.size - (RowKit.intOf i).toNat)
  case atStart => exact ⟨a, Nat.le_refl _, ha, rfl, fun j h1 h2 => by omega⟩
  case round =>
    obtain ⟨k, hak, hk, rfl, hall⟩ := hrel
    have HA := Lib.hid hall
    clear hall
    by_cases hlt : k < s.size
    · have hkz : (k : Int) < (s.size : Int) := by omega
      have hg := byt_get s k hlt
      have L1 := RL.out s[k]
      have D1 := RD.out s[k]
      cases hL : isL s[k]
      · rw [hL] at L1
        have L2 := Lib.hid L1
        cases hD : dig s[k]
        · rw [hD] at D1
          have D2 := Lib.hid D1
          by_cases h95 : (s[k].toNat : Int) = 95
          · have hc := (u8_int s[k] 95 (by decide)).1 h95
            have h95t : ((s[k].toNat : Int) == 95) = true := by rw [beq_iff_eq]; exact h95
            have HP : Hid (isN ((byt s)[k]'(lb hlt)) = true) := Lib.hid (by rw [← hg]; exact (congrArg isN hc).trans (by decide))
            clear hg hc L1 D1 hL hD h95
            go_wp2_with fail
            refine (L2.out _).mono ?_
            rintro e w1 ⟨rfl, rfl⟩
            go_wp2_with fail
            refine (D2.out _).mono ?_
            rintro e w1 ⟨rfl, rfl⟩
            go_wp2_with fail
            go_round
            case rel =>
              refine ⟨k + 1, by omega, by omega, by go_num, fun j h1 h2 => ?_⟩
              by_cases hjk : j < k
              · exact HA.out j h1 hjk
              · have : j = k := by omega
                subst this
                exact ⟨(lb hlt), HP.out⟩
            case measure => simp [RowKit.intOf]; omega
          · have h95b : ((s[k].toNat : Int) == 95) = false := by rw [beq_eq_false_iff_ne]; exact h95
            by_cases h46 : (s[k].toNat : Int) = 46
            · have hc := (u8_int s[k] 46 (by decide)).1 h46
              have h46t : ((s[k].toNat : Int) == 46) = true := by rw [beq_iff_eq]; exact h46
              have HP : Hid (isN ((byt s)[k]'(lb hlt)) = true) := Lib.hid (by rw [← hg]; exact (congrArg isN hc).trans (by decide))
              clear hg hc L1 D1 hL hD h46
              go_wp2_with fail
              refine (L2.out _).mono ?_
              rintro e w1 ⟨rfl, rfl⟩
              go_wp2_with fail
              refine (D2.out _).mono ?_
              rintro e w1 ⟨rfl, rfl⟩
              go_wp2_with fail
              go_round
              case rel =>
                refine ⟨k + 1, by omega, by omega, by go_num, fun j h1 h2 => ?_⟩
                by_cases hjk : j < k
                · exact HA.out j h1 hjk
                · have : j = k := by omega
                  subst this
                  exact ⟨(lb hlt), HP.out⟩
              case measure => simp [RowKit.intOf]; omega
            · have h46b : ((s[k].toNat : Int) == 46) = false := by rw [beq_eq_false_iff_ne]; exact h46
              by_cases h37 : (s[k].toNat : Int) = 37
              · have hc := (u8_int s[k] 37 (by decide)).1 h37
                have h37t : ((s[k].toNat : Int) == 37) = true := by rw [beq_iff_eq]; exact h37
                have HP : Hid (isN ((byt s)[k]'(lb hlt)) = true) := Lib.hid (by rw [← hg]; exact (congrArg isN hc).trans (by decide))
                clear hg hc L1 D1 hL hD h37
                go_wp2_with fail
                refine (L2.out _).mono ?_
                rintro e w1 ⟨rfl, rfl⟩
                go_wp2_with fail
                refine (D2.out _).mono ?_
                rintro e w1 ⟨rfl, rfl⟩
                go_wp2_with fail
                go_round
                case rel =>
                  refine ⟨k + 1, by omega, by omega, by go_num, fun j h1 h2 => ?_⟩
                  by_cases hjk : j < k
                  · exact HA.out j h1 hjk
                  · have : j = k := by omega
                    subst this
                    exact ⟨(lb hlt), HP.out⟩
                case measure => simp [RowKit.intOf]; omega
              · have h37b : ((s[k].toNat : Int) == 37) = false := by rw [beq_eq_false_iff_ne]; exact h37
                have HQ : Hid (E = k) := Lib.hid (by rw [← HE.out]; exact sp_from isN (byt s) a k hak (lb hlt) HA.out (by show isN s[k] = false; unfold isN isW; rw [hL, hD]; simp only [Bool.false_or, Bool.or_eq_false_iff, beq_eq_false_iff_ne]; exact ⟨⟨fun e => h95 ((u8_int s[k] 95 (by decide)).2 e), fun e => h46 ((u8_int s[k] 46 (by decide)).2 e)⟩, fun e => h37 ((u8_int s[k] 37 (by decide)).2 e)⟩))
                clear hg L1 D1 hL hD
                go_wp2_with fail
                refine (L2.out _).mono ?_
                rintro e w1 ⟨rfl, rfl⟩
                go_wp2_with fail
                refine (D2.out _).mono ?_
                rintro e w1 ⟨rfl, rfl⟩
                go_wp2_with fail
                go_ret
                exact ⟨by rw [HQ.out]; rfl, rfl⟩
        · rw [hD] at D1
          have D2 := Lib.hid D1
          have HP : Hid (isN ((byt s)[k]'(lb hlt)) = true) := Lib.hid (by rw [← hg]; exact dig_N _ hD)
          clear hg L1 D1 hL hD
          go_wp2_with fail
          refine (L2.out _).mono ?_
          rintro e w1 ⟨rfl, rfl⟩
          go_wp2_with fail
          refine (D2.out _).mono ?_
          rintro e w1 ⟨rfl, rfl⟩
          go_wp2_with fail
          go_round
          case rel =>
            refine ⟨k + 1, by omega, by omega, by go_num, fun j h1 h2 => ?_⟩
            by_cases hjk : j < k
            · exact HA.out j h1 hjk
            · have : j = k := by omega
              subst this
              exact ⟨(lb hlt), HP.out⟩
          case measure => simp [RowKit.intOf]; omega
      · rw [hL] at L1
        have L2 := Lib.hid L1
        have HP : Hid (isN ((byt s)[k]'(lb hlt)) = true) := Lib.hid (by rw [← hg]; exact isL_N _ hL)
        clear hg L1 D1 hL
        go_wp2_with fail
        refine (L2.out _).mono ?_
        rintro e w1 ⟨rfl, rfl⟩
        go_wp2_with fail
        go_round
        case rel =>
          refine ⟨k + 1, by omega, by omega, by go_num, fun j h1 h2 => ?_⟩
          by_cases hjk : j < k
          · exact HA.out j h1 hjk
          · have : j = k := by omega
            subst this
            exact ⟨(lb hlt), HP.out⟩
        case measure => simp [RowKit.intOf]; omega
    · have he : s.size = k := by omega
      have HQ : Hid (E = k) := Lib.hid (by
        rw [← HE.out, ← he, ← byt_len]
        exact sp_from_end isN (byt s) a (by rw [byt_len]; exact ha) (fun i h1 h2 => HA.out i h1 (by rw [byt_len] at h2; omega)))
      have hkz : ¬ (k : Int) < (s.size : Int) := by omega
      clear he
      go_wp2_with fail
      go_ret
      exact ⟨by rw [HQ.out]; rfl, rfl⟩

/-- A number of 19 digits or more that is above the greatest int, as the document compares texts. -/
def grt2 (l : List UInt8) : Bool := decide (19 < l.length) || (decide (l.length = 19) && !(Op.bytesLess l mst || l == mst))
theorem grt2_eq {l : List UInt8} (h : numl l = true) : grt2 l = grt l := by
  have ha := (numl_parts h).1
  unfold grt2 grt
  by_cases h2 : l.length = 19
  · have heq : (l == mst) = decide (dval l = dval mst) := by
      rw [Bool.eq_iff_iff, beq_iff_eq, decide_eq_true_eq]
      constructor
      · intro e; rw [e]
      · intro e
        rw [← pd_dval 19 l h2 ha, e, pd_dval 19 mst rfl (by decide)]
    rw [cmp_digits mst l (by rw [h2]; rfl) (by decide) ha, cmp_digits l mst h2 ha (by decide), heq]
    have key : ∀ x y : Nat, (!(decide (x < y) || decide (x = y))) = decide (y < x) := by
      intro x y
      rw [Bool.eq_iff_iff]
      simp
      omega
    rw [key]
  · rw [decide_eq_false h2, Bool.false_and, Bool.false_and]
theorem str_gtr (x y : ByteArray) (W : World) : (binOp .gtr 9 (.string x) (.string y)).run Tryz.prog W = .ok (.bool (!(Op.bytesLess x.toList y.toList || x.toList == y.toList))) W := by
  simp [binOp, Op.stringOp, go_sem]
set_option maxRecDepth 100000 in
set_option maxHeartbeats 2000000 in
theorem rgreat (s : ByteArray) (w : World) :
    Calls Tryz.prog 41 #[.string s] w fun e w' => e = .returned (.bool (grt2 (byt s))) ∧ w = w' := by
  have hl := byt_len s
  obtain ⟨B, hB⟩ : ∃ B, (!(Op.bytesLess (byt s) mst || byt s == mst)) = B := ⟨_, rfl⟩
  have hr : ∀ W, (binOp .gtr 9 (.string s) (.string ⟨#[57, 50, 50, 51, 51, 55, 50, 48, 51, 54, 56, 53, 52, 55, 55, 53, 56, 48, 55]⟩)).run Tryz.prog W = .ok (.bool B) W := fun W => by
    rw [str_gtr, toList_data, toList_data, ← hB]; rfl
  unfold grt2
  rw [hB, hl]
  clear hB hl
  by_cases h1 : 19 < s.size
  · rw [decide_eq_true h1, Bool.true_or]
    have hz : (19 : Int) < (s.size : Int) := by omega
    clear h1
    go_enter Tryz.func41, Tryz.ntmps41
    go_wp2_with fail
    go_ret
    exact ⟨rfl, rfl⟩
  · rw [decide_eq_false h1, Bool.false_or]
    have hz : ¬ (19 : Int) < (s.size : Int) := by omega
    by_cases h2 : s.size = 19
    · rw [decide_eq_true h2, Bool.true_and]
      have hz2 : (s.size : Int) = 19 := by omega
      clear h1 h2
      cases B
      · go_enter Tryz.func41, Tryz.ntmps41
        go_wp2_with fail
        go_ret
        exact ⟨rfl, rfl⟩
      · go_enter Tryz.func41, Tryz.ntmps41
        go_wp2_with fail
        go_ret
        exact ⟨rfl, rfl⟩
    · rw [decide_eq_false h2, Bool.false_and]
      have hz2 : ((s.size : Int) == 19) = false := by rw [beq_eq_false_iff_ne]; omega
      clear h1 h2
      go_enter Tryz.func41, Tryz.ntmps41
      go_wp2_with fail
      go_ret
      exact ⟨rfl, rfl⟩
/-! ### The words -/
/-- The words lie there. -/
def WordsAt (b : Nat) (w : World) : Prop := b < w.heap.size ∧ ∀ i, i < 42 → w.cell? ⟨b, i, none⟩ = some (.string (str (wds.getD i [])))
theorem WordsAt.keep {b : Nat} {w w' : World} (h : WordsAt b w) (hb : Below w.heap.size w w') : WordsAt b w' :=
  ⟨by have := h.1; have := hb.size; omega, fun i hi => keepc hb (h.2 i hi)⟩
theorem words_new (w : World) : WordsAt w.heap.size (w.alloc (.cells (wds.map (fun x => Value.string (str x))).toArray 9)) := by
  refine ⟨by simp, fun i hi => ?_⟩
  rw [cell_of_row _ _ i _ _ (0, 0) (heap_alloc_new w _)]
  have hl : wds.length = 42 := rfl
  simp [List.getD, hl, hi]
set_option maxRecDepth 100000 in
set_option maxHeartbeats 2000000 in
theorem rwords (w : World) :
    Calls Tryz.prog 61 #[] w fun e w' => e = .returned (.slice (some ⟨w.heap.size, 0, none⟩) 42 42) ∧ WordsAt w.heap.size w' ∧ Below w.heap.size w w' := by
  have hnew := words_new w
  have hb := bal (bref w) (.cells (wds.map (fun x => Value.string (str x))).toArray 9)
  go_enter Tryz.func61, Tryz.ntmps61
  go_wp2_with fail
  go_ret
  exact ⟨rfl, hnew, hb⟩
set_option maxRecDepth 100000 in
set_option maxHeartbeats 2000000 in
theorem rword (s : ByteArray) (w : World) :
    Calls Tryz.prog 38 #[.string s] w fun e w' => e = .returned (.bool (wrd (byt s))) ∧ Below w.heap.size w w' := by
  have RW := Lib.hid (rwords w)
  obtain ⟨R, hR⟩ : ∃ R, wrd (byt s) = R := ⟨_, rfl⟩
  have HR := Lib.hid hR
  rw [hR]
  clear hR
  go_enter Tryz.func38, Tryz.ntmps38
  go_wp2_with fail
  refine RW.out.mono ?_
  rintro e w1 ⟨rfl, hW, q1⟩
  have HW := Lib.hid hW
  have Q1 := Lib.hid q1
  have hb := hW.1
  clear hW q1
  go_wp2_with fail
  go_loop [4] (fun i => ∃ (k : Nat), k ≤ 42 ∧ i = .int .i64 k ∧ (wds.take k).contains (byt s) = false) (fun i => 42 - (RowKit.intOf i).toNat)
  case atStart => exact ⟨0, by omega, rfl, rfl⟩
  case round =>
    obtain ⟨k, hk, rfl, hA⟩ := hrel
    have HA := Lib.hid hA
    clear hA
    by_cases hlt : k < 42
    · have c0 := HW.out.2 k hlt
      have hl : wds.length = 42 := rfl
      have ht : wds.take (k + 1) = wds.take k ++ [wds.getD k []] := by
        rw [List.take_succ_eq_append_getElem (by omega)]
        simp [List.getD, hl, hlt]
      have hm : wds.getD k [] ∈ wds := by
        have : wds.getD k [] = wds[k]'(by omega) := by simp [List.getD, hl, hlt]
        rw [this]; exact List.getElem_mem _
      obtain ⟨x, hx⟩ : ∃ x, wds.getD k [] = x := ⟨_, rfl⟩
      rw [hx] at c0 ht hm
      obtain ⟨X, hX⟩ : ∃ X, str x = X := ⟨_, rfl⟩
      have hXx : byt X = x := by rw [← hX, byt_str]
      rw [hX] at c0
      have hkz : (k : Int) < 42 := by omega
      cases hq : (X.toList == s.toList)
      · have hne : x ≠ byt s := by
          rw [beq_eq_false_iff_ne, toList_data, toList_data] at hq
          rw [← hXx]; exact hq
        have HA2 : Hid ((wds.take (k + 1)).contains (byt s) = false) := Lib.hid (by
          have h1 := HA.out
          rw [ht]
          rw [List.contains_eq_mem, decide_eq_false_iff_not] at h1 ⊢
          rw [List.mem_append, List.mem_singleton]
          rintro (h | h)
          · exact h1 h
          · exact hne h.symm)
        clear hl ht hm hx hX hXx hne
        go_wp2_with fail
        go_round
        case rel => exact ⟨k + 1, by omega, by go_num, HA2.out⟩
        case measure => simp [RowKit.intOf]; omega
      · have he : x = byt s := by
          have := eq_of_beq hq
          rw [toList_data, toList_data] at this
          rw [← hXx]; exact this
        have HQ : Hid (R = true) := Lib.hid (by
          rw [← HR.out]
          unfold wrd
          rw [List.contains_eq_mem, decide_eq_true_eq, ← he]; exact hm)
        clear hl ht hm hx hX hXx he
        go_wp2_with fail
        go_ret
        exact ⟨by rw [HQ.out]; rfl, Q1.out⟩
    · have he : k = 42 := by omega
      subst he
      have HQ : Hid (R = false) := Lib.hid (by rw [← HR.out]; exact HA.out)
      go_wp2_with fail
      go_ret
      exact ⟨by rw [HQ.out]; rfl, Q1.out⟩
end Go.Proofs.YtpmappddepkhiaaGreatDoor
