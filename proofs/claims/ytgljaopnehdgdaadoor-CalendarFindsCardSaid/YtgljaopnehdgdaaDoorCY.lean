/-
  Lists of calendars: Find of both sides, and the walk of the law CalendarFinds.
-/
import Derived.Test.YtgljaopnehdgdaaDoorCU
namespace Go.Proofs.YtgljaopnehdgdaaDoor
open Go Go.RowKit Go.Lib WM

/-- A calendar's lists lie in memory, however long. -/
structure CalBig (wo hp : Option Addr) (we ho : List Int) (w : World) : Prop where
  wl : we.length ≤ 17592186044416
  hl : ho.length ≤ 17592186044416
  wk : IntsAt wo we w
  hd : IntsAt hp ho w
theorem CalBig.keep {wo hp : Option Addr} {we ho : List Int} {w w' : World} (h : CalBig wo hp we ho w) (hb : Below w.heap.size w w') : CalBig wo hp we ho w' := ⟨h.wl, h.hl, h.wk.keep hb, h.hd.keep hb⟩

set_option maxHeartbeats 1000000 in
theorem rintsB (ao bo : Option Addr) (cap cbp : Nat) (xs ys : List Int) (w : World) (hl : xs.length ≤ 17592186044416) (_ : ys.length ≤ 17592186044416) (hc : IntsAt ao xs w) (hd : IntsAt bo ys w) :
    Calls Tryd.prog 39 #[.slice ao xs.length cap, .slice bo ys.length cbp] w fun e w' => e = .returned (.bool (decide (xs = ys))) ∧ ∃ n, w' = w.drewN n := by
  by_cases he : xs.length = ys.length
  · obtain ⟨R, hR⟩ : ∃ R, decide (xs = ys) = R := ⟨_, rfl⟩
    rw [hR]
    have HR := Lib.hid hR
    have HC := Lib.hid hc
    have HD := Lib.hid hd
    have hez : ((xs.length : Int) == (ys.length : Int)) = true := by rw [beq_iff_eq]; omega
    have hez2 : (xs.length : Int) = (ys.length : Int) := by omega
    have HE := Lib.hid he
    clear hR hc hd
    go_enter Tryd.func39, Tryd.ntmps39
    go_wp2_with fail
    go_loopw [5] (fun i wr => ∃ k n : Nat, k ≤ xs.length ∧ i = .int .i64 k ∧ decide (xs.drop k = ys.drop k) = R ∧ wr = w.drewN n) (fun i _ => xs.length - (RowKit.intOf i).toNat)
    case atStart => exact ⟨0, 0, by omega, rfl, by rw [List.drop_zero, List.drop_zero]; exact HR.out, rfl⟩
    case round =>
      obtain ⟨k, n, hk, rfl, hh, rfl⟩ := hrel
      by_cases hlt : k < xs.length
      · obtain ⟨b, off, rfl, hbw, c0⟩ := HC.out k hlt
        obtain ⟨b2, off2, rfl, hbw2, c1⟩ := HD.out k (by omega)
        obtain ⟨x, hx⟩ : ∃ x, xs.getD k 0 = x := ⟨_, rfl⟩
        obtain ⟨y, hy⟩ : ∃ y, ys.getD k 0 = y := ⟨_, rfl⟩
        rw [drop_i xs k hlt, drop_i ys k (by omega), hx, hy] at hh
        rw [hx] at c0
        rw [hy] at c1
        have hkz : (k : Int) < (xs.length : Int) := by omega
        have hkz2 : (k : Int) < (ys.length : Int) := by omega
        have hk00 : (0 : Int) ≤ (k : Int) := by omega
        by_cases hq : x = y
        · subst hq
          have HHN : Hid (decide (xs.drop (k + 1) = ys.drop (k + 1)) = R) := Lib.hid (by rw [← hh]; simp)
          have hq1 : (x == x) = true := by simp
          clear hx hy hh HR he HC HD
          go_wp2_with fail
          go_quiet (fail)
          go_wp2_with fail
          go_roundw
          case rel => exact ⟨k + 1, _, hlt, by go_num, HHN.out, rfl⟩
          case measure => simp [RowKit.intOf]; omega
        · have HRR : Hid (R = false) := Lib.hid (by rw [← hh]; simp [hq])
          have hq1 : (x == y) = false := by rw [beq_eq_false_iff_ne]; exact hq
          clear hx hy hh HR he HC HD
          go_wp2_with fail
          go_quiet (fail)
          go_wp2_with fail
          go_ret
          exact ⟨by rw [HRR.out]; rfl, _, World.drewN_drewN _ _ _⟩
      · have hke : k = xs.length := by omega
        subst hke
        have HRR : Hid (R = true) := Lib.hid (by
          rw [← hh, List.drop_length, HE.out, List.drop_length]; rfl)
        clear hh HR he
        go_wp2_with fail
        go_ret
        exact ⟨by rw [HRR.out]; rfl, n, rfl⟩
  · have HR : Hid (decide (xs = ys) = false) := Lib.hid (by
      rw [decide_eq_false_iff_not]; exact fun e => he (by rw [e]))
    have hez : ((xs.length : Int) == (ys.length : Int)) = false := by rw [beq_eq_false_iff_ne]; omega
    have hez2 : ¬ (xs.length : Int) = (ys.length : Int) := by omega
    clear hc hd he
    go_enter Tryd.func39, Tryd.ntmps39
    go_wp2_with fail
    go_ret
    exact ⟨by rw [HR.out]; rfl, 0, rfl⟩

set_option maxRecDepth 100000 in
set_option maxHeartbeats 1000000 in
theorem rSameB (nm n2 : ByteArray) (wo hp wo2 hp2 : Option Addr) (wc hc wc2 hc2 : Nat) (we ho we2 ho2 : List Int) (w : World) (hA : CalBig wo hp we ho w) (hB : CalBig wo2 hp2 we2 ho2 w) :
    Calls Tryd.prog 16 #[.agg #[.string nm, .slice wo we.length wc, .slice hp ho.length hc], .agg #[.string n2, .slice wo2 we2.length wc2, .slice hp2 ho2.length hc2]] w fun e w' => e = .returned (.bool (sameB nm n2 we we2 ho ho2)) ∧ Below w.heap.size w w' := by
  obtain ⟨R, hR⟩ : ∃ R, sameB nm n2 we we2 ho ho2 = R := ⟨_, rfl⟩
  rw [hR]
  unfold sameB at hR
  have HA := Lib.hid hA
  have HB := Lib.hid hB
  have C1 := fun W hx hy => rintsB wo wo2 wc wc2 we we2 W hA.wl hB.wl hx hy
  have C2 := fun W hx hy => rintsB hp hp2 hc hc2 ho ho2 W hA.hl hB.hl hx hy
  clear hA hB
  cases h1 : (nm.toList == n2.toList)
  · have HR : Hid (R = false) := Lib.hid (by rw [← hR, h1]; rfl)
    clear hR C1 C2
    go_enter Tryd.func16, Tryd.ntmps16
    go_wp2_with fail
    go_ret
    exact ⟨by rw [HR.out]; rfl, bal (bal (bref _) _) _⟩
  · rw [h1, Bool.true_and] at hR
    cases h2 : decide (we = we2)
    · have HR : Hid (R = false) := Lib.hid (by rw [← hR, h2]; rfl)
      rw [h2] at C1
      have C1 := Lib.hid C1
      clear hR C2 h2
      go_enter Tryd.func16, Tryd.ntmps16
      go_wp2_with fail
      refine (C1.out _ (HA.out.wk.keep (bal (bal (bref _) _) _)) (HB.out.wk.keep (bal (bal (bref _) _) _))).mono ?_
      rintro e w1 ⟨rfl, n, rfl⟩
      go_wp2_with fail
      go_ret
      exact ⟨by rw [HR.out]; rfl, bdn (bal (bal (bref _) _) _) _⟩
    · rw [h2, Bool.true_and] at hR
      rw [h2] at C1
      rw [hR] at C2
      have C1 := Lib.hid C1
      have C2 := Lib.hid C2
      clear hR h2
      go_enter Tryd.func16, Tryd.ntmps16
      go_wp2_with fail
      refine (C1.out _ (HA.out.wk.keep (bal (bal (bref _) _) _)) (HB.out.wk.keep (bal (bal (bref _) _) _))).mono ?_
      rintro e w1 ⟨rfl, n, rfl⟩
      go_wp2_with fail
      refine (C2.out _ (HA.out.hd.keep (bdn (bal (bal (bref _) _) _) _)) (HB.out.hd.keep (bdn (bal (bal (bref _) _) _) _))).mono ?_
      rintro e w1 ⟨rfl, n2, rfl⟩
      go_wp2_with fail
      go_ret
      exact ⟨by simp, by first | exact bdn (bal (bal (bref _) _) _) _ | exact bdn (bdn (bal (bal (bref _) _) _) _) _⟩

/-- slices.Clone at any list: the same numbers, in memory of the call's own. -/
theorem clone_any (ao : Option Addr) (cap : Nat) (zs : List Int) (w : World) (hc : IntsAt ao zs w) (hn : NilOk ao cap zs) (hl : zs.length * 8 ≤ 140737488355328) :
    Calls Tryd.prog 38 #[.slice ao zs.length cap] w fun e w' => ∃ vo vc, e = .returned (.slice vo zs.length vc) ∧ IntsAt vo zs w' ∧ (∀ a, vo = some a → w.heap.size ≤ a.block) ∧ Below w.heap.size w w' := by
  cases ao with
  | none =>
    obtain ⟨h0, _⟩ := hn rfl
    refine (Tryd.slices_Clone_int_nil zs.length cap w).mono ?_
    rintro e w' ⟨rfl, rfl⟩
    exact ⟨none, 0, by rw [h0], hc, (fun a h => by cases h), bref _⟩
  | some a =>
    cases zs with
    | nil =>
      refine (Tryd.slices_Clone_int_zero a cap w).mono ?_
      rintro e w' ⟨v, rfl, ho, _, hb⟩
      obtain ⟨_, vo, vc, rfl, hi, _, hbs⟩ := own_shape (l := []) ho
      exact ⟨vo, vc, rfl, hi, hbs, hb⟩
    | cons x l =>
      obtain ⟨b, off, e, _, _⟩ := hc 0 (by simp)
      cases e
      refine (Tryd.slices_Clone_int b off (x :: l).length cap (x :: l) w (Nat.le_refl _) hl (fun j hj => ?_)).mono ?_
      · obtain ⟨b', off', e, _, c⟩ := hc j hj
        cases e
        exact c
      · rintro e w' ⟨v, rfl, ho, _, hb⟩
        rw [List.take_length] at ho
        obtain ⟨_, vo, vc, rfl, hi, _, hbs⟩ := own_shape ho
        exact ⟨vo, vc, rfl, hi, hbs, hb⟩

structure CalR where
  nm : ByteArray
  wo : Option Addr
  wc : Nat
  we : List Int
  hp : Option Addr
  hc : Nat
  ho : List Int
def zeroR : CalR := ⟨⟨#[]⟩, none, 0, [], none, 0, []⟩
structure CalR.Ok (c : CalR) (w : World) : Prop where
  wk : IntsAt c.wo c.we w
  hd : IntsAt c.hp c.ho w
  nw : NilOk c.wo c.wc c.we
  nh : NilOk c.hp c.hc c.ho
  lw : c.we.length * 8 ≤ 140737488355328
  lh : c.ho.length * 8 ≤ 140737488355328
theorem CalR.Ok.keep {c : CalR} {w w' : World} (h : c.Ok w) (hb : Below w.heap.size w w') : c.Ok w' := ⟨h.wk.keep hb, h.hd.keep hb, h.nw, h.nh, h.lw, h.lh⟩
theorem zeroR_ok (w : World) : zeroR.Ok w := ⟨IntsAt.nil _ _, IntsAt.nil _ _, fun _ => ⟨rfl, rfl⟩, fun _ => ⟨rfl, rfl⟩, by decide, by decide⟩
/-- The list lies there: three cells an element. -/
def CalsAt (ao : Option Addr) (cs : List CalR) (w : World) : Prop := ∀ i, i < cs.length → ∃ b off, ao = some ⟨b, off, none⟩ ∧ b < w.heap.size ∧ w.cell? ⟨b, off + i * 3, none⟩ = some (.string (cs.getD i zeroR).nm) ∧
  w.cell? ⟨b, off + i * 3 + 1, none⟩ = some (.slice (cs.getD i zeroR).wo (cs.getD i zeroR).we.length (cs.getD i zeroR).wc) ∧ w.cell? ⟨b, off + i * 3 + 2, none⟩ = some (.slice (cs.getD i zeroR).hp (cs.getD i zeroR).ho.length (cs.getD i zeroR).hc) ∧ (cs.getD i zeroR).Ok w
theorem CalsAt.keep {ao : Option Addr} {cs : List CalR} {w w' : World} (h : CalsAt ao cs w) (hb : Below w.heap.size w w') : CalsAt ao cs w' := by
  intro i hi
  obtain ⟨b, off, e, hbw, c0, c1, c2, k⟩ := h i hi
  exact ⟨b, off, e, by have := hb.size; omega, (hb.cell (p := ⟨b, off + i * 3, none⟩) hbw).trans c0, (hb.cell (p := ⟨b, off + i * 3 + 1, none⟩) hbw).trans c1, (hb.cell (p := ⟨b, off + i * 3 + 2, none⟩) hbw).trans c2, k.keep hb⟩
def isR (name : ByteArray) (c : CalR) : Bool := c.nm.toList == name.toList
def findR (cs : List CalR) (name : ByteArray) : CalR × Bool := match cs.find? (isR name) with
  | some c => (c, true)
  | none => (zeroR, false)
theorem take_snoc_r (l : List CalR) (k : Nat) (h : k < l.length) : l.take (k + 1) = l.take k ++ [l.getD k zeroR] := by
  rw [List.take_succ_eq_append_getElem h]
  simp [List.getD, h]
theorem findR_step (cs : List CalR) (name : ByteArray) (k : Nat) (hk : k < cs.length) (h : (cs.take k).find? (isR name) = none) (hc : isR name (cs.getD k zeroR) = false) : (cs.take (k + 1)).find? (isR name) = none := by
  rw [take_snoc_r cs k hk, List.find?_append, h]
  simp only [List.find?_cons, hc, List.find?_nil]; rfl
theorem findR_hit (cs : List CalR) (name : ByteArray) (k : Nat) (hk : k < cs.length) (h : (cs.take k).find? (isR name) = none) (hc : isR name (cs.getD k zeroR) = true) : findR cs name = (cs.getD k zeroR, true) := by
  have e : cs = cs.take (k + 1) ++ cs.drop (k + 1) := (List.take_append_drop _ _).symm
  have hf : cs.find? (isR name) = some (cs.getD k zeroR) := by
    conv => lhs; rw [e, take_snoc_r cs k hk]
    rw [List.find?_append, List.find?_append, h]
    simp only [List.find?_cons, hc]; rfl
  unfold findR; rw [hf]
theorem findR_none (cs : List CalR) (name : ByteArray) (h : (cs.take cs.length).find? (isR name) = none) : findR cs name = (zeroR, false) := by
  rw [List.take_length] at h
  unfold findR; rw [h]
theorem RBox.al {b : Nat} {x y z : Value} {w : World} (h : RBox b x y z w) (o : Obj) : RBox b x y z (w.alloc o) := h.keep (bal (bref _) o)
theorem KS.put {b : Nat} {x y z : Value} {w W : World} (h : KS b x y z w W) (p : Addr) (hp : w.heap.size ≤ p.block) (hne : p.block ≠ b) (v : Value) : KS b x y z w (W.setCell p v) := by
  obtain ⟨⟨h0, h1, h2⟩, hb⟩ := h
  refine ⟨⟨?_, ?_, ?_⟩, hb.setCell hp v⟩
  all_goals rw [World.cell?_setCell_other _ _ _ _ (by intro c; rw [c] at hne; exact hne rfl)]; assumption

set_option maxRecDepth 100000 in
set_option maxHeartbeats 4000000 in
theorem rFind (ao : Option Addr) (cap : Nat) (cs : List CalR) (name : ByteArray) (w : World) (hlen : cs.length ≤ 1000000) (hcs : CalsAt ao cs w) :
    Calls Tryd.prog 15 #[.slice ao cs.length cap, .string name] w fun e w' => ∃ vo vc hp hc, e = .returned (.tuple #[.agg #[.string (findR cs name).1.nm, .slice vo (findR cs name).1.we.length vc, .slice hp (findR cs name).1.ho.length hc], .bool (findR cs name).2]) ∧ IntsAt vo (findR cs name).1.we w' ∧ IntsAt hp (findR cs name).1.ho w' ∧ (findR cs name).1.we.length * 8 ≤ 140737488355328 ∧ (findR cs name).1.ho.length * 8 ≤ 140737488355328 ∧ Below w.heap.size w w' := by
  obtain ⟨R, hR⟩ : ∃ R, findR cs name = R := ⟨_, rfl⟩
  rw [hR]
  have HR := Lib.hid hR
  have HC := Lib.hid hcs
  clear hR hcs
  go_enter Tryd.func15, Tryd.ntmps15
  go_wp2_with fail
  go_loopw [6] (fun i wr => ∃ k : Nat, k ≤ cs.length ∧ i = .int .i64 k ∧ (cs.take k).find? (isR name) = none ∧ RBox w.heap.size (.string ⟨#[]⟩) (.slice none 0 0) (.slice none 0 0) wr ∧ Below w.heap.size w wr) (fun i _ => cs.length - (RowKit.intOf i).toNat)
  case atStart => exact ⟨0, by omega, rfl, rfl, (by refine ⟨⟨?_, ?_, ?_⟩, ?_, ?_, ?_⟩ <;> simp [go_sem]), bal (bref _) _⟩
  case round =>
    obtain ⟨k, hk, rfl, hn, hX, hB⟩ := hrel
    have HX := Lib.hid hX
    have HN := Lib.hid hn
    have HB := Lib.hid hB
    obtain ⟨⟨r0, r1, r2⟩, f0, f1, f2⟩ := hX
    have l0 : w.heap.size < wr.heap.size := World.block_lt_of_cell? wr _ r0
    clear hn
    by_cases hlt : k < cs.length
    · obtain ⟨b, off, rfl, hbw, c0, c1, c2, hok⟩ := (HC.out.keep hB) k hlt
      obtain ⟨nm, hnm⟩ : ∃ nm, (cs.getD k zeroR).nm = nm := ⟨_, rfl⟩
      obtain ⟨wo, hwo⟩ : ∃ wo, (cs.getD k zeroR).wo = wo := ⟨_, rfl⟩
      obtain ⟨wc, hwc⟩ : ∃ wc, (cs.getD k zeroR).wc = wc := ⟨_, rfl⟩
      obtain ⟨we, hwe⟩ : ∃ we, (cs.getD k zeroR).we = we := ⟨_, rfl⟩
      obtain ⟨hp, hhp⟩ : ∃ hp, (cs.getD k zeroR).hp = hp := ⟨_, rfl⟩
      obtain ⟨hc, hhc⟩ : ∃ hc, (cs.getD k zeroR).hc = hc := ⟨_, rfl⟩
      obtain ⟨ho, hho⟩ : ∃ ho, (cs.getD k zeroR).ho = ho := ⟨_, rfl⟩
      obtain ⟨ok1, ok2, ok3, ok4, ok5, ok6⟩ := hok
      rw [hwo, hwe] at ok1
      rw [hhp, hho] at ok2
      rw [hwo, hwc, hwe] at ok3
      rw [hhp, hhc, hho] at ok4
      rw [hwe] at ok5
      rw [hho] at ok6
      rw [hnm] at c0; rw [hwo, hwe, hwc] at c1; rw [hhp, hho, hhc] at c2
      have hkz : (k : Int) < (cs.length : Int) := by omega
      have hR := HR.out
      have b1 : ∀ a, wo = some a → we ≠ [] → a.block < w.heap.size := fun a h hne => by
        obtain ⟨_, _, _, _, _, _, _, hok'⟩ := HC.out k hlt
        have h1 := hok'.wk
        rw [hwo, hwe] at h1
        obtain ⟨b', off', e, hb', _⟩ := h1 0 (by cases we with | nil => exact absurd rfl hne | cons x l => simp)
        rw [h] at e; cases e; exact hb'
      have b2 : ∀ a, hp = some a → ho ≠ [] → a.block < w.heap.size := fun a h hne => by
        obtain ⟨_, _, _, _, _, _, _, hok'⟩ := HC.out k hlt
        have h1 := hok'.hd
        rw [hhp, hho] at h1
        obtain ⟨b', off', e, hb', _⟩ := h1 0 (by cases ho with | nil => exact absurd rfl hne | cons x l => simp)
        rw [h] at e; cases e; exact hb'
      cases hq : (nm.toList == name.toList)
      · have HST := Lib.hid (findR_step cs name k hlt HN.out (by unfold isR; rw [hnm]; exact hq))
        clear hnm hwo hwc hwe hhp hhc hho hB hR
        go_wp2_with fail
        go_roundw
        case rel => exact ⟨k + 1, hlt, by go_num, HST.out, HX.out, HB.out⟩
        case measure => simp [RowKit.intOf]; omega
      · have hF := findR_hit cs name k hlt HN.out (by unfold isR; rw [hnm]; exact hq)
        rw [hR] at hF
        have e1 : R.1.nm = nm := by rw [hF]; exact hnm
        have e2 : R.1.we = we := by rw [hF]; exact hwe
        have e3 : R.1.ho = ho := by rw [hF]; exact hho
        have e4 : R.2 = true := by rw [hF]
        have E := Lib.hid (And.intro e1 (And.intro e2 (And.intro e3 e4)))
        clear hnm hwo hwc hwe hhp hhc hho hB hR hF e1 e2 e3 e4
        go_wp2_with fail
        obtain ⟨p0, p1, p2⟩ := put3 r0 r1 r2 (.string nm) (.slice wo we.length wc) (.slice hp ho.length hc)
        have I1 := ((ok1.put ⟨w.heap.size, 0, none⟩ (.string nm) (fun a h hne => by have := b1 a h hne; show a.block ≠ w.heap.size; omega)).put ⟨w.heap.size, 1, none⟩ (.slice wo we.length wc) (fun a h hne => by have := b1 a h hne; show a.block ≠ w.heap.size; omega)).put ⟨w.heap.size, 2, none⟩ (.slice hp ho.length hc) (fun a h hne => by have := b1 a h hne; show a.block ≠ w.heap.size; omega)
        have I2 := ((ok2.put ⟨w.heap.size, 0, none⟩ (.string nm) (fun a h hne => by have := b2 a h hne; show a.block ≠ w.heap.size; omega)).put ⟨w.heap.size, 1, none⟩ (.slice wo we.length wc) (fun a h hne => by have := b2 a h hne; show a.block ≠ w.heap.size; omega)).put ⟨w.heap.size, 2, none⟩ (.slice hp ho.length hc) (fun a h hne => by have := b2 a h hne; show a.block ≠ w.heap.size; omega)
        obtain ⟨e1, e2, e3, e4⟩ := E.out
        refine bodyPost_ret (v := .tuple #[.agg #[.string nm, .slice wo we.length wc, .slice hp ho.length hc], .bool true]) (by simp [results, Tryd.results15, go_sem, p0, p1, p2]) rfl ⟨wo, wc, hp, hc, ?_, ?_⟩
        · rw [e1, e2, e3, e4]
        · rw [e2, e3]
          exact ⟨I1, I2, ok5, ok6, ((HB.out.setCell (Nat.le_refl _) _).setCell (Nat.le_refl _) _).setCell (Nat.le_refl _) _⟩
    · have he : k = cs.length := by omega
      subst he
      have HRR : Hid (R = (zeroR, false)) := Lib.hid (by rw [← HR.out, findR_none cs name HN.out])
      clear hB
      go_wp2_with fail
      refine bodyPost_ret (v := .tuple #[.agg #[.string ⟨#[]⟩, .slice none 0 0, .slice none 0 0], .bool false]) (by simp [results, Tryd.results15, go_sem, r0, r1, r2]) rfl ⟨none, 0, none, 0, by rw [HRR.out]; rfl, ?_⟩
      rw [HRR.out]
      refine ⟨IntsAt.nil _ _, IntsAt.nil _ _, by decide, by decide, ?_⟩
      exact ((HB.out.setCell (Nat.le_refl _) _).setCell (Nat.le_refl _) _).setCell (Nat.le_refl _) _

set_option maxRecDepth 100000 in
set_option maxHeartbeats 16000000 in
theorem mFind (ao : Option Addr) (cap : Nat) (cs : List CalR) (name : ByteArray) (w : World) (hlen : cs.length ≤ 1000000) (hcs : CalsAt ao cs w) :
    Calls Tryd.prog 14 #[.slice ao cs.length cap, .string name] w fun e w' => ∃ vo vc hp hc, e = .returned (.tuple #[.agg #[.string (findR cs name).1.nm, .slice vo (findR cs name).1.we.length vc, .slice hp (findR cs name).1.ho.length hc], .bool (findR cs name).2]) ∧ IntsAt vo (findR cs name).1.we w' ∧ IntsAt hp (findR cs name).1.ho w' ∧ (findR cs name).1.we.length * 8 ≤ 140737488355328 ∧ (findR cs name).1.ho.length * 8 ≤ 140737488355328 ∧ Below w.heap.size w w' := by
  obtain ⟨R, hR⟩ : ∃ R, findR cs name = R := ⟨_, rfl⟩
  rw [hR]
  have HR := Lib.hid hR
  have HC := Lib.hid hcs
  clear hR hcs
  go_enter Tryd.func14, Tryd.ntmps14
  go_wp2_with fail
  go_loopw [10] (fun i wr => ∃ k : Nat, k ≤ cs.length ∧ i = .int .i64 k ∧ (cs.take k).find? (isR name) = none ∧ RBox w.heap.size (.string ⟨#[]⟩) (.slice none 0 0) (.slice none 0 0) wr ∧ Below w.heap.size w wr) (fun i _ => cs.length - (RowKit.intOf i).toNat)
  case atStart => exact ⟨0, by omega, rfl, rfl, (by refine ⟨⟨?_, ?_, ?_⟩, ?_, ?_, ?_⟩ <;> simp [go_sem]), bal (bref _) _⟩
  case round =>
    obtain ⟨k, hk, rfl, hn, hX, hB⟩ := hrel
    have HX := Lib.hid hX
    have HN := Lib.hid hn
    have HB := Lib.hid hB
    obtain ⟨⟨r0, r1, r2⟩, f0, f1, f2⟩ := hX
    have l0 : w.heap.size < wr.heap.size := World.block_lt_of_cell? wr _ r0
    clear hn
    by_cases hlt : k < cs.length
    · obtain ⟨b, off, rfl, hbw, c0, c1, c2, hok⟩ := (HC.out.keep hB) k hlt
      obtain ⟨nm, hnm⟩ : ∃ nm, (cs.getD k zeroR).nm = nm := ⟨_, rfl⟩
      obtain ⟨wo, hwo⟩ : ∃ wo, (cs.getD k zeroR).wo = wo := ⟨_, rfl⟩
      obtain ⟨wc, hwc⟩ : ∃ wc, (cs.getD k zeroR).wc = wc := ⟨_, rfl⟩
      obtain ⟨we, hwe⟩ : ∃ we, (cs.getD k zeroR).we = we := ⟨_, rfl⟩
      obtain ⟨hp, hhp⟩ : ∃ hp, (cs.getD k zeroR).hp = hp := ⟨_, rfl⟩
      obtain ⟨hc, hhc⟩ : ∃ hc, (cs.getD k zeroR).hc = hc := ⟨_, rfl⟩
      obtain ⟨ho, hho⟩ : ∃ ho, (cs.getD k zeroR).ho = ho := ⟨_, rfl⟩
      obtain ⟨ok1, ok2, ok3, ok4, ok5, ok6⟩ := hok
      rw [hwo, hwe] at ok1
      rw [hhp, hho] at ok2
      rw [hwo, hwc, hwe] at ok3
      rw [hhp, hhc, hho] at ok4
      rw [hwe] at ok5
      rw [hho] at ok6
      rw [hnm] at c0; rw [hwo, hwe, hwc] at c1; rw [hhp, hho, hhc] at c2
      have hkz : (k : Int) < (cs.length : Int) := by omega
      have hR := HR.out
      cases hq : (nm.toList == name.toList)
      · have HST := Lib.hid (findR_step cs name k hlt HN.out (by unfold isR; rw [hnm]; exact hq))
        have HX2 := Lib.hid (HX.out.al (.cells #[.string nm, .slice wo we.length wc, .slice hp ho.length hc] 24))
        have HB2 := Lib.hid (bal HB.out (.cells #[.string nm, .slice wo we.length wc, .slice hp ho.length hc] 24))
        clear hnm hwo hwc hwe hhp hhc hho hB hR
        go_wp2_with fail
        go_roundw
        case rel => exact ⟨k + 1, hlt, by go_num, HST.out, HX2.out, HB2.out⟩
        case measure => simp [RowKit.intOf]; omega
      · have hF := findR_hit cs name k hlt HN.out (by unfold isR; rw [hnm]; exact hq)
        rw [hR] at hF
        have e1 : R.1.nm = nm := by rw [hF]; exact hnm
        have e2 : R.1.we = we := by rw [hF]; exact hwe
        have e3 : R.1.ho = ho := by rw [hF]; exact hho
        have e4 : R.2 = true := by rw [hF]
        have E := Lib.hid (And.intro e1 (And.intro e2 (And.intro e3 e4)))
        have CL1 := Lib.hid (fun W a => clone_any wo wc we W a ok3 ok5)
        have CL2 := Lib.hid (fun W a => clone_any hp hc ho W a ok4 ok6)
        have qk : Below wr.heap.size wr (wr.alloc (.cells #[.string nm, .slice wo we.length wc, .slice hp ho.length hc] 24)).drew := bdn (bal (bref wr) _) 1
        have O1 := Lib.hid (ok1.keep qk)
        have O2 := Lib.hid (ok2.keep qk)
        have RB := Lib.hid (HX.out.keep qk)
        have qs : Hid (KS wr.heap.size (.string nm) (.slice wo we.length wc) (.slice hp ho.length hc) w (wr.alloc (.cells #[.string nm, .slice wo we.length wc, .slice hp ho.length hc] 24)).drew) := Lib.hid ⟨⟨by simp [go_sem], by simp [go_sem], by simp [go_sem]⟩, btr HB.out qk⟩
        have ln : w.heap.size ≠ wr.heap.size := by omega
        have lq := qk.size
        clear hnm hwo hwc hwe hhp hhc hho hB hR hF e1 e2 e3 e4 qk
        go_wp2_with fail
        refine wp_region_held_drew (S := KS wr.heap.size (.string nm) (.slice wo we.length wc) (.slice hp ho.length hc) w) (by kernel_rfl) qs.out (fun hH0 => ?_)
        refine wpAnyH_take (i := 0) (oi := _) (v := ?_) rfl (by kernel_rfl) (by kernel_rfl) (by kernel_rfl) (fun _ _ _ h => h) (Or.inl ⟨?_, ?_⟩) hH0 ?_
        rotate_left
        · kernel_rfl
        · (intro W' hSw; obtain ⟨⟨s0, s1, s2⟩, s5⟩ := hSw; go_simp; (try with_reducible rfl))
        (try simp only [List.getElem_toArray])
        (try simp only [List.getElem_cons_succ])
        (try simp only [List.getElem_cons_zero])
        (try simp only [Act.put])
        (try simp only [List.setIfInBounds_toArray])
        (try simp only [List.set_cons_succ])
        (try simp only [List.set_cons_zero])
        refine wpAnyH_take (i := 1) (oi := _) (v := ?_) rfl (by kernel_rfl) (by kernel_rfl) (by kernel_rfl) (fun _ _ _ h => h) (Or.inl ⟨?_, ?_⟩) hH0 ?_
        rotate_left
        · kernel_rfl
        · (intro W' hSw; obtain ⟨⟨s0, s1, s2⟩, s5⟩ := hSw; go_simp; (try with_reducible rfl))
        (try simp only [List.getElem_toArray])
        (try simp only [List.getElem_cons_succ])
        (try simp only [List.getElem_cons_zero])
        (try simp only [Act.put])
        (try simp only [List.setIfInBounds_toArray])
        (try simp only [List.set_cons_succ])
        (try simp only [List.set_cons_zero])
        refine wpAnyH_take (i := 2) (oi := _) (v := ?_) rfl (by kernel_rfl) (by kernel_rfl) (by kernel_rfl) (fun _ _ _ h => h) (Or.inl ⟨?_, ?_⟩) hH0 ?_
        rotate_left
        · kernel_rfl
        · (intro W' hSw; obtain ⟨⟨s0, s1, s2⟩, s5⟩ := hSw; go_simp; (try with_reducible rfl))
        (try simp only [List.getElem_toArray])
        (try simp only [List.getElem_cons_succ])
        (try simp only [List.getElem_cons_zero])
        (try simp only [Act.put])
        (try simp only [List.setIfInBounds_toArray])
        (try simp only [List.set_cons_succ])
        (try simp only [List.set_cons_zero])
        refine wpAnyH_take (i := 3) (oi := _) (v := ?_) rfl (by kernel_rfl) (by kernel_rfl) (by kernel_rfl) (fun _ _ _ h => h) (Or.inl ⟨?_, ?_⟩) hH0 ?_
        rotate_left
        · kernel_rfl
        · (intro W' hSw; obtain ⟨⟨s0, s1, s2⟩, s5⟩ := hSw; go_simp; (try with_reducible rfl))
        (try simp only [List.getElem_toArray])
        (try simp only [List.getElem_cons_succ])
        (try simp only [List.getElem_cons_zero])
        (try simp only [Act.put])
        (try simp only [List.setIfInBounds_toArray])
        (try simp only [List.set_cons_succ])
        (try simp only [List.set_cons_zero])
        refine wpAnyH_take (i := 5) (oi := _) (v := ?_) rfl (by kernel_rfl) (by kernel_rfl) (by kernel_rfl) (fun _ _ _ h => h) (Or.inl ⟨?_, ?_⟩) hH0 ?_
        rotate_left
        · kernel_rfl
        · (intro W' hSw; obtain ⟨⟨s0, s1, s2⟩, s5⟩ := hSw; go_simp; (try with_reducible rfl))
        (try simp only [List.getElem_toArray])
        (try simp only [List.getElem_cons_succ])
        (try simp only [List.getElem_cons_zero])
        (try simp only [Act.put])
        (try simp only [List.setIfInBounds_toArray])
        (try simp only [List.set_cons_succ])
        (try simp only [List.set_cons_zero])
        refine wpAnyH_take (i := 6) (oi := _) (v := ?_) rfl (by kernel_rfl) (by kernel_rfl) (by kernel_rfl) (fun _ _ _ h => h) (Or.inl ⟨?_, ?_⟩) hH0 ?_
        rotate_left
        · kernel_rfl
        · (intro W' hSw; obtain ⟨⟨s0, s1, s2⟩, s5⟩ := hSw; go_simp; (try with_reducible rfl))
        (try simp only [List.getElem_toArray])
        (try simp only [List.getElem_cons_succ])
        (try simp only [List.getElem_cons_zero])
        (try simp only [Act.put])
        (try simp only [List.setIfInBounds_toArray])
        (try simp only [List.set_cons_succ])
        (try simp only [List.set_cons_zero])
        refine wpAnyH_ready (rs := [4]) (by kernel_rfl) (by simp) ?_
        refine AllReadyH.cons (o := _) rfl (fun K hK => ?_) AllReadyH.nil
        go_simp
        refine (CL1.out _ O1.out).mono ?_
        rintro e W1 ⟨vo, vc, rfl, hi1, hb1, hk1⟩
        refine hK.out _ _ (hH0.keep hk1) (fun hH1 => ?_)
        clear hK K
        (try simp only [List.getElem_toArray])
        (try simp only [List.getElem_cons_succ])
        (try simp only [List.getElem_cons_zero])
        (try simp only [Act.put])
        (try simp only [List.setIfInBounds_toArray])
        (try simp only [List.set_cons_succ])
        (try simp only [List.set_cons_zero])
        have O2 := Lib.hid (O2.out.keep hk1)
        have RB := Lib.hid (RB.out.keep hk1)
        clear hH0 O1
        refine wpAnyH_ready (rs := [7]) (by kernel_rfl) (by simp) ?_
        refine AllReadyH.cons (o := _) rfl (fun K hK => ?_) AllReadyH.nil
        go_simp
        refine (CL2.out _ O2.out).mono ?_
        rintro e W2 ⟨vo2, vc2, rfl, hi2, hb2, hk2⟩
        refine hK.out _ _ (hH1.keep hk2) (fun hH2 => ?_)
        clear hK K
        (try simp only [List.getElem_toArray])
        (try simp only [List.getElem_cons_succ])
        (try simp only [List.getElem_cons_zero])
        (try simp only [Act.put])
        (try simp only [List.setIfInBounds_toArray])
        (try simp only [List.set_cons_succ])
        (try simp only [List.set_cons_zero])
        have RB2 := RB.out.keep hk2
        have J1 := hi1.keep hk2
        have l2 := hk1.size
        clear hH1 O2 RB
        obtain ⟨⟨c0, c1, c2⟩, f0, f1, f2⟩ := RB2
        refine wpAnyH_take (i := 8) (oi := _) (v := ?_) rfl (by kernel_rfl) (by kernel_rfl) (by kernel_rfl) (fun _ _ _ h => h) (Or.inl ⟨?_, ?_⟩) hH2 ?_
        rotate_left
        · kernel_rfl
        · (intro W' hSw; obtain ⟨⟨s0, s1, s2⟩, s5⟩ := hSw; go_simp; (try with_reducible rfl))
        (try simp only [List.getElem_toArray])
        (try simp only [List.getElem_cons_succ])
        (try simp only [List.getElem_cons_zero])
        (try simp only [Act.put])
        (try simp only [List.setIfInBounds_toArray])
        (try simp only [List.set_cons_succ])
        (try simp only [List.set_cons_zero])
        refine wpAnyH_ready (rs := [9]) (by kernel_rfl) (by simp) ?_
        refine AllReadyH.cons (o := _) rfl (fun K hK => ?_) AllReadyH.nil
        go_simp
        refine hK.out _ _ (((hH2.put ⟨w.heap.size, 0, none⟩ (Nat.le_refl _) ln _).put ⟨w.heap.size, 1, none⟩ (Nat.le_refl _) ln _).put ⟨w.heap.size, 2, none⟩ (Nat.le_refl _) ln _) (fun hH3 => ?_)
        clear hK K
        (try simp only [List.getElem_toArray])
        (try simp only [List.getElem_cons_succ])
        (try simp only [List.getElem_cons_zero])
        (try simp only [Act.put])
        (try simp only [List.setIfInBounds_toArray])
        (try simp only [List.set_cons_succ])
        (try simp only [List.set_cons_zero])
        refine wpAnyH_take (i := 10) (oi := _) (v := ?_) rfl (by kernel_rfl) (by kernel_rfl) (by kernel_rfl) (fun _ _ _ h => h) (Or.inl ⟨?_, ?_⟩) hH3 ?_
        rotate_left
        · kernel_rfl
        · (intro W' hSw; obtain ⟨⟨s0, s1, s2⟩, s5⟩ := hSw; go_simp; (try with_reducible rfl))
        (try simp only [List.getElem_toArray])
        (try simp only [List.getElem_cons_succ])
        (try simp only [List.getElem_cons_zero])
        (try simp only [Act.put])
        (try simp only [List.setIfInBounds_toArray])
        (try simp only [List.set_cons_succ])
        (try simp only [List.set_cons_zero])
        refine wpAnyH_done (by kernel_rfl) ?_ _
        obtain ⟨p0, p1, p2⟩ := put3 c0 c1 c2 (.string nm) (.slice vo we.length vc) (.slice vo2 ho.length vc2)
        have I1 := ((J1.put ⟨w.heap.size, 0, none⟩ (.string nm) (fun a h _ => by have := hb1 a h; show a.block ≠ w.heap.size; omega)).put ⟨w.heap.size, 1, none⟩ (.slice vo we.length vc) (fun a h _ => by have := hb1 a h; show a.block ≠ w.heap.size; omega)).put ⟨w.heap.size, 2, none⟩ (.slice vo2 ho.length vc2) (fun a h _ => by have := hb1 a h; show a.block ≠ w.heap.size; omega)
        have I2 := ((hi2.put ⟨w.heap.size, 0, none⟩ (.string nm) (fun a h _ => by have := hb2 a h; show a.block ≠ w.heap.size; omega)).put ⟨w.heap.size, 1, none⟩ (.slice vo we.length vc) (fun a h _ => by have := hb2 a h; show a.block ≠ w.heap.size; omega)).put ⟨w.heap.size, 2, none⟩ (.slice vo2 ho.length vc2) (fun a h _ => by have := hb2 a h; show a.block ≠ w.heap.size; omega)
        have ZZ := hH3.2
        clear hH2 hH3 J1 hi1 hi2 hk1 hk2 c0 c1 c2 f0 f1 f2 CL1 CL2
        go_wp2_with fail
        obtain ⟨e1, e2, e3, e4⟩ := E.out
        refine bodyPost_ret (v := .tuple #[.agg #[.string nm, .slice vo we.length vc, .slice vo2 ho.length vc2], .bool true]) (by simp [results, Tryd.results14, go_sem, p0, p1, p2]) rfl ⟨vo, vc, vo2, vc2, ?_, ?_⟩
        · rw [e1, e2, e3, e4]
        · rw [e2, e3]
          exact ⟨I1, I2, ok5, ok6, ZZ⟩
    · have he : k = cs.length := by omega
      subst he
      have HRR : Hid (R = (zeroR, false)) := Lib.hid (by rw [← HR.out, findR_none cs name HN.out])
      clear hB
      go_wp2_with fail
      refine bodyPost_ret (v := .tuple #[.agg #[.string ⟨#[]⟩, .slice none 0 0, .slice none 0 0], .bool false]) (by simp [results, Tryd.results14, go_sem, r0, r1, r2]) rfl ⟨none, 0, none, 0, by rw [HRR.out]; rfl, ?_⟩
      rw [HRR.out]
      refine ⟨IntsAt.nil _ _, IntsAt.nil _ _, by decide, by decide, ?_⟩
      exact ((HB.out.setCell (Nat.le_refl _) _).setCell (Nat.le_refl _) _).setCell (Nat.le_refl _) _

set_option maxRecDepth 100000 in
set_option maxHeartbeats 4000000 in
theorem wCalendarFinds (ao : Option Addr) (cap : Nat) (cs : List CalR) (name : ByteArray) (w : World) (hL : Ln w) (hcs : CalsAt ao cs w) :
    Calls Tryd.prog 4 #[.slice ao cs.length cap, .string name] w fun e w' => e = .returned (.bool true) ∧ Below w.heap.size w w' := by
  have HL := Lib.hid hL
  have HC := Lib.hid hcs
  clear hL hcs
  by_cases h1 : 30 < cs.length
  · have h1z : (30 : Int) < (cs.length : Int) := by omega
    clear HC
    go_enter Tryd.func4, Tryd.ntmps4
    go_wp2_with fail
    refine (live_any _ HL.out).mono ?_
    rintro e w2 ⟨rfl, q2⟩
    have Z2 := Lib.hid q2
    clear q2
    go_wp2_with fail
    go_ret
    exact ⟨rfl, Z2.out⟩
  · have h1z : ¬ (30 : Int) < (cs.length : Int) := by omega
    by_cases h2 : 100 < name.size
    · have h2z : (100 : Int) < (name.size : Int) := by omega
      clear HC
      go_enter Tryd.func4, Tryd.ntmps4
      go_wp2_with fail
      refine (live_any _ HL.out).mono ?_
      rintro e w2 ⟨rfl, q2⟩
      have Z2 := Lib.hid q2
      clear q2
      go_wp2_with fail
      go_ret
      exact ⟨rfl, Z2.out⟩
    · have h2z : ¬ (100 : Int) < (name.size : Int) := by omega
      have C1 := fun W k => mFind ao cap cs name W (by omega) k
      have C2 := fun W k => rFind ao cap cs name W (by omega) k
      obtain ⟨F, hF⟩ : ∃ F, findR cs name = F := ⟨_, rfl⟩
      simp only [hF] at C1 C2
      obtain ⟨⟨nm, _, _, we, _, _, ho⟩, B⟩ := F
      simp only at C1 C2
      have C3 := fun uo vo uc vc uo2 vo2 uc2 vc2 W a b => rSameB nm nm uo vo uo2 vo2 uc vc uc2 vc2 we ho we ho W a b
      have hs : sameB nm nm we we ho ho = true := by unfold sameB; simp
      rw [hs] at C3
      have HBig : Hid (∀ uo vo W, we.length * 8 ≤ 140737488355328 → ho.length * 8 ≤ 140737488355328 → IntsAt uo we W → IntsAt vo ho W → CalBig uo vo we ho W) := Lib.hid (fun uo vo W a b c d => ⟨by omega, by omega, c, d⟩)
      obtain ⟨NW, hNW⟩ : ∃ NW, we.length = NW := ⟨_, rfl⟩
      obtain ⟨NH, hNH⟩ : ∃ NH, ho.length = NH := ⟨_, rfl⟩
      simp only [hNW, hNH] at C1 C2 C3
      rw [hNW, hNH] at HBig
      have C1 := Lib.hid C1
      have C2 := Lib.hid C2
      have C3 := Lib.hid C3
      clear hF hs hNW hNH
      go_enter Tryd.func4, Tryd.ntmps4
      go_wp2_with fail
      refine (C1.out _ HC.out).mono ?_
      rintro e w1 ⟨vo, vc, hp, hc, rfl, i1, i2, l1, l2, q⟩
      have qb := bal (bref w1) (.cells #[.string nm, .slice vo NW vc, .slice hp NH hc] 24)
      have Z1 := Lib.hid (btr q qb)
      have G1 := Lib.hid ((HBig.out vo hp _ l1 l2 i1 i2).keep qb)
      have X1 : Box3 w1.heap.size (.string nm) (.slice vo NW vc) (.slice hp NH hc) (w1.alloc (.cells #[.string nm, .slice vo NW vc, .slice hp NH hc] 24)) := by refine ⟨?_, ?_, ?_⟩ <;> simp [go_sem]
      have HX := Lib.hid X1
      clear q qb i1 i2 l1 l2 X1
      go_wp2_with fail
      refine (C2.out _ (HC.out.keep Z1.out)).mono ?_
      rintro e w2 ⟨vo2, vc2, hp2, hc2, rfl, i1, i2, l1, l2, q⟩
      have qb := bal (bref w2) (.cells #[.string nm, .slice vo2 NW vc2, .slice hp2 NH hc2] 24)
      have Z2 := Lib.hid (btr (btr Z1.out q) qb)
      have G2 := Lib.hid ((HBig.out vo2 hp2 _ l1 l2 i1 i2).keep qb)
      have G1 := Lib.hid ((G1.out.keep q).keep qb)
      have X1 := (HX.out.keep q).keep qb
      clear q qb i1 i2 l1 l2 Z1 HX
      obtain ⟨x0, x1, x2⟩ := X1
      go_wp2_with fail
      refine (C3.out _ _ _ _ _ _ _ _ _ G1.out G2.out).mono ?_
      rintro e w3 ⟨rfl, q⟩
      have Z3 := Lib.hid (btr Z2.out q)
      clear q x0 x1 x2 G1 G2 Z2
      go_wp2_with fail
      refine (live_any _ (HL.out.keep Z3.out)).mono ?_
      rintro e w4 ⟨rfl, q⟩
      have Z4 := Lib.hid (btr Z3.out q)
      clear q
      go_wp2_with fail
      go_ret
      exact ⟨by first | rfl | simp, Z4.out⟩
end Go.Proofs.YtgljaopnehdgdaaDoor
