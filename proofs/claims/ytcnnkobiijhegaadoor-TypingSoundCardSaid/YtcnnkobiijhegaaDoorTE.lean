/-
  Tokens: contracts of package token's named and number.
-/
import Derived.Test.YtcnnkobiijhegaaDoorTD
namespace Go.Proofs.YtcnnkobiijhegaaDoor
open Go Go.RowKit Go.Lib WM TM

/-- A token as a value. -/
def tokV (k ln : Int) (x : List UInt8) : Value := .agg #[.int .i64 k, .int .i64 ln, .string (str x)]
def nmK (x : List UInt8) : Int := if nmerr x = 0 then (if wrd x = true then 5 else 1) else 0
def nmX (x : List UInt8) : List UInt8 := if nmerr x = 0 then x else []
def nuK (x : List UInt8) : Int := if nerr x = 0 then (if numl x = true then 2 else 3) else 0
def nuX (x : List UInt8) : List UInt8 := if nerr x = 0 then x else []

set_option maxRecDepth 100000 in
set_option maxHeartbeats 1000000 in
theorem mnamed (s : ByteArray) (w : World) :
    Calls Tryd.prog 44 #[.string s] w fun e w' => e = .returned (.tuple #[tokV (nmK (byt s)) 0 (nmX (byt s)), .int .i64 (nmerr (byt s))]) ∧ Below w.heap.size w w' := by
  have MW := mword s
  have hs := str_byt s
  have hl := byt_len s
  cases h1 : wrd (byt s)
  · rw [h1] at MW
    have HW := Lib.hid MW
    by_cases h2 : 16 < s.size
    · have e1 : nmerr (byt s) = 4 := by unfold nmerr; rw [h1, hl, if_neg (by decide), if_pos h2]
      have e2 : nmK (byt s) = 0 := by unfold nmK; rw [e1]; rfl
      have e3 : nmX (byt s) = [] := by unfold nmX; rw [e1]; rfl
      have h2z : (16 : Int) < (s.size : Int) := by omega
      rw [e1, e2, e3]
      clear MW h1 e1 e2 e3 hl hs h2
      go_enter Tryd.func44, Tryd.ntmps44
      go_wp2_with fail
      refine (HW.out _).mono ?_
      rintro e w1 ⟨rfl, rfl⟩
      go_wp2_with fail
      refine bodyPost_ret (v := .tuple #[tokV 0 0 [], .int .i64 4]) (by simp [results, Tryd.results44, go_sem, tokV, str_nil]) rfl ⟨rfl, ?_⟩
      (repeat (first | exact bref _ | refine bdr ?_ | refine bal ?_ _ | refine bset ?_ (by simp; done) _))
    · have e1 : nmerr (byt s) = 0 := by unfold nmerr; rw [h1, hl, if_neg (by decide), if_neg h2]
      have e2 : nmK (byt s) = 1 := by unfold nmK; rw [e1, h1]; rfl
      have e3 : nmX (byt s) = byt s := by unfold nmX; rw [e1]; rfl
      have h2z : ¬ (16 : Int) < (s.size : Int) := by omega
      have HV : Hid (tokV 1 0 (byt s) = .agg #[.int .i64 1, .int .i64 0, .string s]) := Lib.hid (by unfold tokV; rw [hs])
      rw [e1, e2, e3]
      clear MW h1 e1 e2 e3 hl hs h2
      go_enter Tryd.func44, Tryd.ntmps44
      go_wp2_with fail
      refine (HW.out _).mono ?_
      rintro e w1 ⟨rfl, rfl⟩
      go_wp2_with fail
      refine bodyPost_ret (v := .tuple #[.agg #[.int .i64 1, .int .i64 0, .string s], .int .i64 0]) (by simp [results, Tryd.results44, go_sem]) rfl ⟨by rw [HV.out], ?_⟩
      (repeat (first | exact bref _ | refine bdr ?_ | refine bal ?_ _ | refine bset ?_ (by simp; done) _))
  · rw [h1] at MW
    have HW := Lib.hid MW
    have e1 : nmerr (byt s) = 0 := by unfold nmerr; rw [h1]; rfl
    have e2 : nmK (byt s) = 5 := by unfold nmK; rw [e1, h1]; rfl
    have e3 : nmX (byt s) = byt s := by unfold nmX; rw [e1]; rfl
    have HV : Hid (tokV 5 0 (byt s) = .agg #[.int .i64 5, .int .i64 0, .string s]) := Lib.hid (by unfold tokV; rw [hs])
    rw [e1, e2, e3]
    clear MW h1 e1 e2 e3 hl hs
    go_enter Tryd.func44, Tryd.ntmps44
    go_wp2_with fail
    refine (HW.out _).mono ?_
    rintro e w1 ⟨rfl, rfl⟩
    go_wp2_with fail
    refine bodyPost_ret (v := .tuple #[.agg #[.int .i64 5, .int .i64 0, .string s], .int .i64 0]) (by simp [results, Tryd.results44, go_sem]) rfl ⟨by rw [HV.out], ?_⟩
    (repeat (first | exact bref _ | refine bdr ?_ | refine bal ?_ _ | refine bset ?_ (by simp; done) _))

/-- Three cells of a box of the call's own. -/
def Own3 (w : World) (b : Nat) (x y z : Value) : Prop := w.cell? ⟨b, 0, none⟩ = some x ∧ w.cell? ⟨b, 1, none⟩ = some y ∧ w.cell? ⟨b, 2, none⟩ = some z ∧ w.frozen? ⟨b, 0, none⟩ = false ∧ w.frozen? ⟨b, 1, none⟩ = false ∧ w.frozen? ⟨b, 2, none⟩ = false
theorem Own3.keep {W w1 : World} {b : Nat} {x y z : Value} (h : Own3 W b x y z) (hb : Below W.heap.size W w1) : Own3 w1 b x y z :=
  ⟨keepc hb h.1, keepc hb h.2.1, keepc hb h.2.2.1, keepf hb h.1 h.2.2.2.1, keepf hb h.2.1 h.2.2.2.2.1, keepf hb h.2.2.1 h.2.2.2.2.2⟩
theorem set_same (W : World) (p : Addr) (v : Value) (h : (W.cell? p).isSome = true) : (W.setCell p v).cell? p = some v := by
  obtain ⟨x, hx⟩ := Option.isSome_iff_exists.1 h
  exact World.cell?_setCell_same _ _ _ hx
theorem Own3.lt {W : World} {b : Nat} {x y z : Value} (h : Own3 W b x y z) : b < W.heap.size := World.block_lt_of_cell? W _ h.1
theorem Own3.new (W : World) (x y z : Value) (t : TypeId) : Own3 (W.alloc (.cells #[x, y, z] t)) W.heap.size x y z := by
  refine ⟨?_, ?_, ?_, ?_, ?_, ?_⟩ <;> simp [go_sem]
theorem rparse (s : ByteArray) (hs : byt s ≠ []) (ha : allDig (byt s) = true) (hl : s.size ≤ 281474976710656) (w : World) (hE : Er w) :
    Calls Tryd.prog 52 #[.string s, .int .i64 10, .int .i64 64] w fun e w' => (∃ v er, e = .returned (.tuple #[.int .i64 v, er]) ∧ ((dval (byt s) ≤ 9223372036854775807 ∧ er = .nilIface) ∨ (¬ dval (byt s) ≤ 9223372036854775807 ∧ ∃ t p, er = .iface t p))) ∧ Below w.heap.size w w' := by
  have h0 := parse64_dig (byt s) hs ha
  by_cases h : dval (byt s) ≤ 9223372036854775807
  · rw [if_pos h] at h0
    refine (Tryd.strconv_ParseInt_10_at64_ok s (by omega) _ h0 w).mono fun e w' ⟨he, hw⟩ => ⟨⟨_, _, he, Or.inl ⟨h, rfl⟩⟩, ?_⟩
    rcases hw with rfl | ⟨t, rfl⟩
    · exact bref _
    · exact Lib.bytesWorld_below _ _ _
  · rw [if_neg h] at h0
    obtain ⟨tp, p, hv⟩ := hE
    refine (Tryd.strconv_ParseInt_10_at64_range_var s (by omega) h0 tp p w hv).mono fun e w' ⟨N, he, _, _, hw⟩ => ⟨⟨_, _, he, Or.inr ⟨h, _, _, rfl⟩⟩, hw⟩

set_option maxRecDepth 100000 in
set_option maxHeartbeats 1000000 in
theorem mnumber (s : ByteArray) (hs : s.size ≤ 281474976710600) (w : World) (hE : Er w) :
    Calls Tryd.prog 46 #[.string s] w fun e w' => e = .returned (.tuple #[tokV (nuK (byt s)) 0 (nuX (byt s)), .int .i64 (nerr (byt s))]) ∧ Below w.heap.size w w' := by
  have MN := fun W => mnumeral s (by omega) W
  have hss := str_byt s
  have HE := Lib.hid hE
  clear hE
  have HB : ∀ {x y z : Value} {t : TypeId}, Own3 (w.alloc (.cells #[x, y, z] t)) w.heap.size x y z := fun {x y z t} => Own3.new w x y z t
  cases h1 : numl (byt s)
  · rw [h1] at MN
    have HN := Lib.hid MN
    have MR := Lib.hid (fun W hW => mrate s hs W hW)
    have c3 : rE (byt s) = 0 ∨ rE (byt s) = 1 ∨ rE (byt s) = 2 := by
      unfold rE
      split
      · split
        · exact Or.inl rfl
        · exact Or.inr (Or.inl rfl)
      · exact Or.inr (Or.inr rfl)
    obtain ⟨RV, hRV⟩ : ∃ RV, rV (byt s) = RV := ⟨_, rfl⟩
    rw [hRV] at MR
    rcases c3 with h2 | h2 | h2
    · have e1 : nerr (byt s) = 0 := by unfold nerr; rw [h1, h2]; rfl
      have e2 : nuK (byt s) = 3 := by unfold nuK; rw [e1, h1]; rfl
      have e3 : nuX (byt s) = byt s := by unfold nuX; rw [e1]; rfl
      have HV : Hid (tokV 3 0 (byt s) = .agg #[.int .i64 3, .int .i64 0, .string s]) := Lib.hid (by unfold tokV; rw [hss])
      rw [e1, e2, e3]
      rw [h2] at MR
      clear MN h1 h2 e1 e2 e3 hss hRV
      go_enter Tryd.func46, Tryd.ntmps46
      go_wp2_with fail
      refine (HN.out _).mono ?_
      rintro e w1 ⟨rfl, q1⟩
      have X1 := Own3.keep HB q1
      have Q1 := Lib.hid (btr (by repeat (first | exact bref _ | refine bdr ?_ | refine bal ?_ _)) q1 : Below w.heap.size w w1)
      have s1 := X1.lt
      obtain ⟨x0, x1, x2, x3, x4, x5⟩ := X1
      go_wp2_with fail
      refine (MR.out _ (HE.out.keep Q1.out)).mono ?_
      rintro e w2 ⟨rfl, q2⟩
      have X2 := Own3.keep ⟨x0, x1, x2, x3, x4, x5⟩ q2
      have Q2 := Lib.hid (btr Q1.out q2)
      have s2 := X2.lt
      clear x0 x1 x2 x3 x4 x5 q2
      obtain ⟨x0, x1, x2, x3, x4, x5⟩ := X2
      go_wp2_with fail
      refine bodyPost_ret (v := .tuple #[.agg #[.int .i64 3, .int .i64 0, .string s], .int .i64 0]) (by simp [results, Tryd.results46, go_sem, set_same, x0, x1, x2]) rfl ⟨by rw [HV.out], ?_⟩
      (repeat (first | exact Q2.out | refine bdr ?_ | refine bal ?_ _ | refine bset ?_ (by simp; done) _))
    · have e1 : nerr (byt s) = 6 := by unfold nerr; rw [h1, h2]; rfl
      have e2 : nuK (byt s) = 0 := by unfold nuK; rw [e1]; rfl
      have e3 : nuX (byt s) = [] := by unfold nuX; rw [e1]; rfl
      rw [e1, e2, e3]
      rw [h2] at MR
      clear MN h1 h2 e1 e2 e3 hss hRV
      go_enter Tryd.func46, Tryd.ntmps46
      go_wp2_with fail
      refine (HN.out _).mono ?_
      rintro e w1 ⟨rfl, q1⟩
      have X1 := Own3.keep HB q1
      have Q1 := Lib.hid (btr (by repeat (first | exact bref _ | refine bdr ?_ | refine bal ?_ _)) q1 : Below w.heap.size w w1)
      have s1 := X1.lt
      obtain ⟨x0, x1, x2, x3, x4, x5⟩ := X1
      go_wp2_with fail
      refine (MR.out _ (HE.out.keep Q1.out)).mono ?_
      rintro e w2 ⟨rfl, q2⟩
      have X2 := Own3.keep ⟨x0, x1, x2, x3, x4, x5⟩ q2
      have Q2 := Lib.hid (btr Q1.out q2)
      have s2 := X2.lt
      clear x0 x1 x2 x3 x4 x5 q2
      obtain ⟨x0, x1, x2, x3, x4, x5⟩ := X2
      go_wp2_with fail
      refine bodyPost_ret (v := .tuple #[tokV 0 0 [], .int .i64 6]) (by simp [results, Tryd.results46, go_sem, tokV, str_nil, set_same, x0, x1, x2]) rfl ⟨rfl, ?_⟩
      (repeat (first | exact Q2.out | refine bdr ?_ | refine bal ?_ _ | refine bset ?_ (by simp; done) _))
    · have e1 : nerr (byt s) = 2 := by unfold nerr; rw [h1, h2]; rfl
      have e2 : nuK (byt s) = 0 := by unfold nuK; rw [e1]; rfl
      have e3 : nuX (byt s) = [] := by unfold nuX; rw [e1]; rfl
      rw [e1, e2, e3]
      rw [h2] at MR
      clear MN h1 h2 e1 e2 e3 hss hRV
      go_enter Tryd.func46, Tryd.ntmps46
      go_wp2_with fail
      refine (HN.out _).mono ?_
      rintro e w1 ⟨rfl, q1⟩
      have X1 := Own3.keep HB q1
      have Q1 := Lib.hid (btr (by repeat (first | exact bref _ | refine bdr ?_ | refine bal ?_ _)) q1 : Below w.heap.size w w1)
      have s1 := X1.lt
      obtain ⟨x0, x1, x2, x3, x4, x5⟩ := X1
      go_wp2_with fail
      refine (MR.out _ (HE.out.keep Q1.out)).mono ?_
      rintro e w2 ⟨rfl, q2⟩
      have X2 := Own3.keep ⟨x0, x1, x2, x3, x4, x5⟩ q2
      have Q2 := Lib.hid (btr Q1.out q2)
      have s2 := X2.lt
      clear x0 x1 x2 x3 x4 x5 q2
      obtain ⟨x0, x1, x2, x3, x4, x5⟩ := X2
      go_wp2_with fail
      refine bodyPost_ret (v := .tuple #[tokV 0 0 [], .int .i64 2]) (by simp [results, Tryd.results46, go_sem, tokV, str_nil, set_same, x0, x1, x2]) rfl ⟨rfl, ?_⟩
      (repeat (first | exact Q2.out | refine bdr ?_ | refine bal ?_ _ | refine bset ?_ (by simp; done) _))
  · rw [h1] at MN
    have HN := Lib.hid MN
    obtain ⟨ha, hsh⟩ := numl_parts h1
    have MP := Lib.hid (fun W hW => rparse s (short_ne hsh) ha (by omega) W hW)
    by_cases hm : dval (byt s) ≤ 9223372036854775807
    · have e1 : nerr (byt s) = 0 := by unfold nerr; rw [h1, if_pos rfl, if_pos hm]
      have e2 : nuK (byt s) = 2 := by unfold nuK; rw [e1, h1]; rfl
      have e3 : nuX (byt s) = byt s := by unfold nuX; rw [e1]; rfl
      have HV : Hid (tokV 2 0 (byt s) = .agg #[.int .i64 2, .int .i64 0, .string s]) := Lib.hid (by unfold tokV; rw [hss])
      have HM := Lib.hid hm
      rw [e1, e2, e3]
      clear MN h1 e1 e2 e3 hss ha hsh hm
      go_enter Tryd.func46, Tryd.ntmps46
      go_wp2_with fail
      refine (HN.out _).mono ?_
      rintro e w1 ⟨rfl, q1⟩
      have X1 := Own3.keep HB q1
      have Q1 := Lib.hid (btr (by repeat (first | exact bref _ | refine bdr ?_ | refine bal ?_ _)) q1 : Below w.heap.size w w1)
      have s1 := X1.lt
      obtain ⟨x0, x1, x2, x3, x4, x5⟩ := X1
      go_wp2_with fail
      refine (MP.out _ (HE.out.keep Q1.out)).mono ?_
      rintro e w2 ⟨⟨v, er, rfl, hv⟩, q2⟩
      have X2 := Own3.keep ⟨x0, x1, x2, x3, x4, x5⟩ q2
      have Q2 := Lib.hid (btr Q1.out q2)
      have s2 := X2.lt
      clear x0 x1 x2 x3 x4 x5 q2
      obtain ⟨x0, x1, x2, x3, x4, x5⟩ := X2
      rcases hv with ⟨hm, rfl⟩ | ⟨hm, _⟩
      · clear hm
        go_wp2_with fail
        refine bodyPost_ret (v := .tuple #[.agg #[.int .i64 2, .int .i64 0, .string s], .int .i64 0]) (by simp [results, Tryd.results46, go_sem, set_same, x0, x1, x2]) rfl ⟨by rw [HV.out], ?_⟩
        (repeat (first | exact Q2.out | refine bdr ?_ | refine bal ?_ _ | refine bset ?_ (by simp; done) _))
      · exact absurd HM.out hm
    · have e1 : nerr (byt s) = 6 := by unfold nerr; rw [h1, if_pos rfl, if_neg hm]
      have e2 : nuK (byt s) = 0 := by unfold nuK; rw [e1]; rfl
      have e3 : nuX (byt s) = [] := by unfold nuX; rw [e1]; rfl
      have HM := Lib.hid hm
      rw [e1, e2, e3]
      clear MN h1 e1 e2 e3 hss ha hsh hm
      go_enter Tryd.func46, Tryd.ntmps46
      go_wp2_with fail
      refine (HN.out _).mono ?_
      rintro e w1 ⟨rfl, q1⟩
      have X1 := Own3.keep HB q1
      have Q1 := Lib.hid (btr (by repeat (first | exact bref _ | refine bdr ?_ | refine bal ?_ _)) q1 : Below w.heap.size w w1)
      have s1 := X1.lt
      obtain ⟨x0, x1, x2, x3, x4, x5⟩ := X1
      go_wp2_with fail
      refine (MP.out _ (HE.out.keep Q1.out)).mono ?_
      rintro e w2 ⟨⟨v, er, rfl, hv⟩, q2⟩
      have X2 := Own3.keep ⟨x0, x1, x2, x3, x4, x5⟩ q2
      have Q2 := Lib.hid (btr Q1.out q2)
      have s2 := X2.lt
      clear x0 x1 x2 x3 x4 x5 q2
      obtain ⟨x0, x1, x2, x3, x4, x5⟩ := X2
      rcases hv with ⟨hm, rfl⟩ | ⟨hm, t, p, rfl⟩
      · exact absurd hm HM.out
      · clear hm
        go_wp2_with fail
        refine bodyPost_ret (v := .tuple #[tokV 0 0 [], .int .i64 6]) (by simp [results, Tryd.results46, go_sem, tokV, str_nil, set_same, x0, x1, x2]) rfl ⟨rfl, ?_⟩
        (repeat (first | exact Q2.out | refine bdr ?_ | refine bal ?_ _ | refine bset ?_ (by simp; done) _))
end Go.Proofs.YtcnnkobiijhegaaDoor
