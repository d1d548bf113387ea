/-
  The contract of the document's own join of two lists.
-/
import Derived.Test.YtgljaopnehdgdaaDoorCP
import Derived.Test.YtgljaopnehdgdaaDoorCV
namespace Go.Proofs.YtgljaopnehdgdaaDoor
open Go Go.RowKit Go.Lib WM

theorem news1 (w : World) (z : Int) : ∀ j u, [Value.int .i64 z][j]? = some u → (w.alloc (.cells #[.int .i64 z] 3)).cell? ((⟨w.heap.size, 0, none⟩ : Addr).add j) = some u := by
  intro j u hj
  match j, hj with
  | 0, hj => simp at hj; subst hj; simp [Addr.add]

set_option maxRecDepth 100000 in
set_option maxHeartbeats 16000000 in
theorem rjoin (ao bo : Option Addr) (ca cb : Nat) (xs ys : List Int) (w : World) (h1 : xs.length ≤ 1000000) (h2 : ys.length ≤ 1000000)
    (hx : IntsAt ao xs w) (hy : IntsAt bo ys w) (nx : ao = none → xs.length = 0 ∧ ca = 0) (ny : bo = none → ys.length = 0 ∧ cb = 0) :
    Calls Tryd.prog 49 #[.slice ao xs.length ca, .slice bo ys.length cb] w fun e w' => ∃ uo uc, e = .returned (.slice uo (normI (xs ++ ys)).length uc) ∧ IntsAt uo (normI (xs ++ ys)) w' ∧ (∀ a, uo = some a → w.heap.size ≤ a.block) ∧ Below w.heap.size w w' := by
  obtain ⟨i0, hi, hz0, hz1, hz2⟩ := info_at
  obtain ⟨zs, hzs⟩ : ∃ zs, xs ++ ys = zs := ⟨_, rfl⟩
  rw [hzs]
  have hTl : zs.length ≤ 2000000 := by rw [← hzs, List.length_append]; omega
  have HZS := Lib.hid hzs
  clear hzs
  have HX := Lib.hid hx
  have HY := Lib.hid hy
  have NX := Lib.hid nx
  have NY := Lib.hid ny
  have qa := Lib.hid (bal (bref w) (.cells #[] 3))
  have HO := Lib.hid (World.ownsRow_made (e := 3) (size := 1) (base := w.heap.size) w #[] 0 (Nat.le_refl _) (by unfold maxLen; omega) rfl)
  have hs1 : w.heap.size ≤ (w.alloc (.cells #[] 3)).heap.size := by simp
  clear hx hy nx ny
  go_enter Tryd.func49, Tryd.ntmps49
  go_wp2_with (first
    | (at_builtin; refine wpList_append_own_any rfl (.tmp 9) (.tmp 10) 22 rfl w.heap.size 3 i0 (.int .i64 0) 1 8 Tryd.underlying22 hi hz0 hz1 hz2 rfl (by decide) _ _ _ rfl HO.out ao xs.length ca (vals xs) rfl (by simp [vals]) NX.out (news_of (HX.out.keep qa.out) rfl) (one_vals xs) (by unfold maxLen; omega) (by omega) hs1 ?_; intro v2 w2 ox gx; have B2 := qa.out.grown gx hs1 (fun b hb => (HO.out.lt b hb).1); have HO2 := Lib.hid ox; have HB2 := Lib.hid B2; have hs2 := B2.size; clear ox gx B2)
    | (at_builtin; refine wpList_append_own_any rfl (.tmp 11) (.tmp 12) 22 rfl w.heap.size 3 i0 (.int .i64 0) 1 8 Tryd.underlying22 hi hz0 hz1 hz2 rfl (by decide) _ _ _ rfl HO2.out bo ys.length cb (vals ys) rfl (by simp [vals]) NY.out (news_of (HY.out.keep HB2.out) rfl) (one_vals ys) (by unfold maxLen; omega) (by omega) hs2 ?_; intro v3 w3 oy gy; have B3 := HB2.out.grown gy hs2 (fun b hb => (HO2.out.lt b hb).1); have HO3 := Lib.hid oy; have HB3 := Lib.hid B3; have hs3 := B3.size; clear oy gy B3))
  have e3 : ([] ++ vals xs ++ vals ys) = vals (xs ++ ys) := by simp [vals]
  have HO4 := HO3.out
  rw [e3, show 0 + xs.length + ys.length = (xs ++ ys).length by simp] at HO4
  rw [HZS.out] at HO4
  obtain ⟨_, zo, zc, rfl, hZ, _, _⟩ := own_shape HO4
  have qb := bal (bref w3) (.cells #[] 3)
  have HZ := Lib.hid hZ
  have HP := Lib.hid (World.ownsRow_made (e := 3) (size := 1) (base := w3.heap.size) w3 #[] 0 (Nat.le_refl _) (by unfold maxLen; omega) rfl)
  have HQ := Lib.hid qb
  clear HO4 HO3 HO2 HO HX HY NX NY qa HB2 hZ e3 HZS qb
  go_loopg [6] zs.length (fun gg x wr => ∃ o : List Int, zs.length - o.length ≤ gg ∧ JO zs o ∧ wr.ownsRow w3.heap.size 3 1 x o.length (vals o) ∧ Below w3.heap.size w3 wr)
  case atStart => exact ⟨[], by simp, JO.nil zs, HP.out, HQ.out⟩
  case round =>
    clear HP HQ
    obtain ⟨o, hg, hJ, hO, hB⟩ := hrel
    obtain ⟨_, oo, oc, rfl, hOI, _, hbase⟩ := own_shape hO
    have HJ := Lib.hid hJ
    have HB := Lib.hid hB
    have HO := Lib.hid hO
    have HOI := Lib.hid hOI
    have HBS := Lib.hid hbase
    obtain ⟨n, hn⟩ : ∃ n, o.length = n := ⟨_, rfl⟩
    have HN := Lib.hid hn
    rw [hn] at hg ⊢
    clear hJ hO hOI hbase hB
    by_cases hnT : n < zs.length
    · have hnz : (n : Int) < (zs.length : Int) := by omega
      clear hn
      go_wp2_with fail
      go_loopw [7, 8] (fun y i wq => ∃ (k : Nat) (A : Int) (m : Nat), k ≤ zs.length ∧ i = .int .i64 k ∧ y = .int .i64 A ∧ Inn zs o k A ∧ wq = wr.drewN m) (fun _ i _ => zs.length - (RowKit.intOf i).toNat)
      case atStart => exact ⟨0, -1, 0, by omega, rfl, rfl, Inn.start zs o, rfl⟩
      case round =>
        obtain ⟨k, A, m, hk, rfl, rfl, hI, rfl⟩ := hrel
        have HI0 := Lib.hid hI
        by_cases hlt : k < zs.length
        · obtain ⟨b, off, rfl, hbw, c0⟩ := (HZ.out.keep HB.out) k hlt
          obtain ⟨x, hx⟩ : ∃ x, zs.getD k 0 = x := ⟨_, rfl⟩
          rw [hx] at c0
          have hkz : (k : Int) < (zs.length : Int) := by omega
          have hk0 : (0 : Int) ≤ (k : Int) := by omega
          rcases hI.cases with rfl | ⟨a, rfl, hak⟩
          · clear hI
            by_cases h0 : n = 0
            · subst h0
              have hgt : GtL o x := fun h => absurd HN.out h
              have HI := Lib.hid (HI0.out.first (by rw [hx]; exact hgt))
              clear hx hgt HI0
              go_wp2_with fail
              go_quiet (fail)
              go_wp2_with fail
              go_roundw
              case rel => exact ⟨k + 1, (k : Int), _, hlt, by go_num, by first | rfl | go_num, HI.out, rfl⟩
              case measure => simp [RowKit.intOf]; omega
            · obtain ⟨j, hj⟩ : ∃ j, n = j + 1 := ⟨n - 1, by omega⟩
              obtain ⟨b', off', rfl, _, c1⟩ := HOI.out j (by rw [HN.out]; omega)
              obtain ⟨y, hy⟩ : ∃ y, o.getD j 0 = y := ⟨_, rfl⟩
              rw [hy] at c1
              have hly : lastI o = y := by unfold lastI; rw [HN.out, ← hy, show n - 1 = j by omega]
              have hwj : IntKind.i64.wrap ((n : Int) - 1) = (j : Int) := by rw [IntKind.wrap_i64]; omega
              have hjz : (j : Int) < (n : Int) := by omega
              have hj0 : (0 : Int) ≤ (j : Int) := by omega
              have hn0 : ((n : Int) == 0) = false := by rw [beq_eq_false_iff_ne]; omega
              have hn1 : ¬ (n : Int) = 0 := by omega
              by_cases hq : y < x
              · have hqd : decide (y < x) = true := by simpa using hq
                have HI := Lib.hid (HI0.out.first (by rw [hx]; intro _; rw [hly]; exact hq))
                clear hx hy hly hj HI0 h0
                go_wp2_with fail
                go_quiet (fail)
                go_wp2_with fail
                go_roundw
                case rel => exact ⟨k + 1, (k : Int), _, hlt, by go_num, by first | rfl | go_num, HI.out, rfl⟩
                case measure => simp [RowKit.intOf]; omega
              · have hqd : decide (y < x) = false := by simpa using hq
                have HI := Lib.hid (HI0.out.skip (by rw [hx]; intro c; exact hq (by rw [← hly]; exact c (by rw [HN.out]; exact h0))))
                clear hx hy hly hj HI0 h0
                go_wp2_with fail
                go_quiet (fail)
                go_wp2_with fail
                go_roundw
                case rel => exact ⟨k + 1, -1, _, hlt, by go_num, rfl, HI.out, rfl⟩
                case measure => simp [RowKit.intOf]; omega
          · clear hI
            obtain ⟨b2, off2, hb2, _, c2⟩ := (HZ.out.keep HB.out) a (by omega)
            injection hb2 with hb2
            injection hb2 with hb3 hb4 _
            subst hb3 hb4
            obtain ⟨z, hz⟩ : ∃ z, zs.getD a 0 = z := ⟨_, rfl⟩
            rw [hz] at c2
            have haz : (a : Int) < (zs.length : Int) := by omega
            have ha0 : (0 : Int) ≤ (a : Int) := by omega
            have had : decide ((a : Int) < 0) = false := by simp
            have han : ¬ (a : Int) < 0 := by omega
            by_cases h0 : n = 0
            · have hgt : GtL o x := fun h => absurd (by rw [HN.out]; exact h0) h
              have hn0 : ((n : Int) == 0) = true := by rw [beq_iff_eq]; omega
              clear h0
              by_cases hl : x < z
              · have hld : decide (x < z) = true := by simpa using hl
                have HI := Lib.hid (HI0.out.less (by rw [hx]; exact hgt) (by rw [hx, hz]; exact hl))
                clear hx hz hgt HI0
                go_wp2_with fail
                go_quiet (fail)
                go_wp2_with fail
                go_roundw
                case rel => exact ⟨k + 1, (k : Int), _, hlt, by go_num, by first | rfl | go_num, HI.out, rfl⟩
                case measure => simp [RowKit.intOf]; omega
              · have hld : decide (x < z) = false := by simpa using hl
                have HI := Lib.hid (HI0.out.more (by rw [hx, hz]; exact hl))
                clear hx hz hgt HI0
                go_wp2_with fail
                go_quiet (fail)
                go_wp2_with fail
                go_roundw
                case rel => exact ⟨k + 1, (a : Int), _, hlt, by go_num, rfl, HI.out, rfl⟩
                case measure => simp [RowKit.intOf]; omega
            · obtain ⟨j, hj⟩ : ∃ j, n = j + 1 := ⟨n - 1, by omega⟩
              obtain ⟨b', off', rfl, _, c1⟩ := HOI.out j (by rw [HN.out]; omega)
              obtain ⟨y, hy⟩ : ∃ y, o.getD j 0 = y := ⟨_, rfl⟩
              rw [hy] at c1
              have hly : lastI o = y := by unfold lastI; rw [HN.out, ← hy, show n - 1 = j by omega]
              have hwj : IntKind.i64.wrap ((n : Int) - 1) = (j : Int) := by rw [IntKind.wrap_i64]; omega
              have hjz : (j : Int) < (n : Int) := by omega
              have hj0 : (0 : Int) ≤ (j : Int) := by omega
              have hn0 : ((n : Int) == 0) = false := by rw [beq_eq_false_iff_ne]; omega
              have hn1 : ¬ (n : Int) = 0 := by omega
              by_cases hq : y < x
              · have hqd : decide (y < x) = true := by simpa using hq
                by_cases hl : x < z
                · have hld : decide (x < z) = true := by simpa using hl
                  have HI := Lib.hid (HI0.out.less (by rw [hx]; intro _; rw [hly]; exact hq) (by rw [hx, hz]; exact hl))
                  clear hx hz hy hly hj HI0 h0
                  go_wp2_with fail
                  go_quiet (fail)
                  go_wp2_with fail
                  go_roundw
                  case rel => exact ⟨k + 1, (k : Int), _, hlt, by go_num, by first | rfl | go_num, HI.out, rfl⟩
                  case measure => simp [RowKit.intOf]; omega
                · have hld : decide (x < z) = false := by simpa using hl
                  have HI := Lib.hid (HI0.out.more (by rw [hx, hz]; exact hl))
                  clear hx hz hy hly hj HI0 h0
                  go_wp2_with fail
                  go_quiet (fail)
                  go_wp2_with fail
                  go_roundw
                  case rel => exact ⟨k + 1, (a : Int), _, hlt, by go_num, rfl, HI.out, rfl⟩
                  case measure => simp [RowKit.intOf]; omega
              · have hqd : decide (y < x) = false := by simpa using hq
                have HI := Lib.hid (HI0.out.skip (by rw [hx]; intro c; exact hq (by rw [← hly]; exact c (by rw [HN.out]; exact h0))))
                clear hx hz hy hly hj HI0 h0
                go_wp2_with fail
                go_quiet (fail)
                go_wp2_with fail
                go_roundw
                case rel => exact ⟨k + 1, (a : Int), _, hlt, by go_num, rfl, HI.out, rfl⟩
                case measure => simp [RowKit.intOf]; omega
        · have he : k = zs.length := by omega
          subst he
          rcases hI.cases with rfl | ⟨a, rfl, hak⟩
          · have HE : Hid (o = normI zs) := Lib.hid (HJ.out.none HI0.out)
            clear hI
            go_wp2_with fail
            go_ret
            rw [← HE.out, HN.out]
            exact ⟨_, _, rfl, HOI.out.keep (bdn (bref _) m), fun a h => Nat.le_trans hs3 (HBS.out a h), btr HB3.out (bdn HB.out m)⟩
          · clear hI
            obtain ⟨b2, off2, rfl, _, c2⟩ := (HZ.out.keep HB.out) a (by omega)
            obtain ⟨z, hz⟩ : ∃ z, zs.getD a 0 = z := ⟨_, rfl⟩
            rw [hz] at c2
            have haz : (a : Int) < (zs.length : Int) := by omega
            have ha0 : (0 : Int) ≤ (a : Int) := by omega
            have han : ¬ (a : Int) < 0 := by omega
            have HJN : Hid (JO zs (o ++ [z])) := Lib.hid (by rw [← hz]; exact HJ.out.next HI0.out)
            have qd := bdn (bref wr) m
            have hsz : w3.heap.size ≤ wr.heap.size := HB.out.size
            have HOn : Hid (((wr.drewN m).alloc (.cells #[.int .i64 z] 3)).ownsRow w3.heap.size 3 1 (.slice oo n oc) n (vals o)) := Lib.hid (by
              have := own_below HO.out (bal qd (.cells #[.int .i64 z] 3))
              rw [HN.out] at this; exact this)
            have hnw : ∀ ad : Addr, some (⟨wr.heap.size, 0, none⟩ : Addr) = some ad → ∀ j u, ([Value.int .i64 z] : List Value)[j]? = some u → ((wr.drewN m).alloc (.cells #[.int .i64 z] 3)).cell? (ad.add j) = some u := by
              intro ad e j u hu
              cases e
              exact news1 (wr.drewN m) z j u hu
            have HNW := Lib.hid hnw
            have h1v : ∀ u ∈ ([Value.int .i64 z] : List Value), u.oneCell' = true := by intro u hu; simp at hu; subst hu; rfl
            have H1V := Lib.hid h1v
            have hszn : w3.heap.size ≤ ((wr.drewN m).alloc (.cells #[.int .i64 z] 3)).heap.size := by simp; omega
            clear hz hnw h1v qd
            go_wp2_with (first | (at_builtin; refine wpList_append_own_any rfl (.tmp 61) (.tmp 66) 22 rfl w3.heap.size 3 i0 (.int .i64 0) 1 8 Tryd.underlying22 hi hz0 hz1 hz2 rfl (by decide) _ _ _ rfl HOn.out (some ⟨wr.heap.size, 0, none⟩) 1 1 [Value.int .i64 z] rfl rfl (fun h => by cases h) HNW.out H1V.out (by unfold maxLen; omega) (by omega) hszn ?_; intro v5 w5 ox gx))
            have B5 : Below w3.heap.size w3 w5 := (bal (bdn HB.out m) (.cells #[.int .i64 z] 3)).grown gx hszn (fun b hb => (HOn.out.lt b hb).1)
            have hl5 : (o ++ [z]).length = n + 1 := by rw [List.length_append, HN.out]; rfl
            have ox5 : w5.ownsRow w3.heap.size 3 1 v5 (o ++ [z]).length (vals (o ++ [z])) := by rw [hl5]; simpa [vals] using ox
            have HX5 := Lib.hid ox5
            have HB5 := Lib.hid B5
            have HL5 := Lib.hid hl5
            clear ox gx B5 ox5 hl5
            go_wp2_with fail
            go_roundg (zs.length - (n + 1))
            case measure => omega
            case rel => exact ⟨o ++ [z], Nat.le_of_eq (by rw [HL5.out]), HJN.out, HX5.out, HB5.out⟩
    · have HE : Hid (o = normI zs) := Lib.hid (HJ.out.full (by rw [hn]; omega))
      have hnz : ¬ (n : Int) < (zs.length : Int) := by omega
      clear hn
      go_wp2_with fail
      go_ret
      rw [← HE.out, HN.out]
      first
        | exact ⟨_, _, rfl, HOI.out, fun a h => Nat.le_trans hs3 (HBS.out a h), btr HB3.out HB.out⟩
        | exact ⟨_, ⟨_, rfl⟩, HOI.out, fun a h => Nat.le_trans hs3 (HBS.out a h), btr HB3.out HB.out⟩
end Go.Proofs.YtgljaopnehdgdaaDoor
