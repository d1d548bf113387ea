/-
  live: the chapter's examples.
-/
import Derived.Test.YtcnnkobiijhegaaDoorZH
namespace Go.Proofs.YtcnnkobiijhegaaDoor
open Go Go.RowKit Go.Lib Go.Shelf WM TM EM YM

def eOne : Ex := .mk 1 1 [] []
def eCash : Ex := .mk 2 1 [] []
def eX : Ex := .mk 4 0 [120] []
def e6a : Ex := .mk 5 0 [] [eX, eCash]
def e6 : Ex := .mk 5 0 [] [e6a, eOne]
def e7a : Ex := .mk 5 0 [] [eOne, eCash]
def e7 : Ex := .mk 5 0 [] [e7a, eX]
def e8 : Ex := .mk 12 0 [] [eX, eOne]
theorem ofT6 : ofT e6 [] = (0, 4) := by decide +kernel
theorem ofT7 : ofT e7 [] = (0, 3) := by decide +kernel
theorem ofT8 : ofT e8 [([120], 1)] = (5, 0) := by decide +kernel
theorem vsE2 : vsE [([120], 1), ([120], 1)] = 12 := by decide +kernel
theorem res1 : resO 7 [2, 3] = some 2 := by decide +kernel
theorem res2 : resO 7 [2, 2] = none := by decide +kernel
theorem res3 : resO 6 [4, 4] = some 1 := by decide +kernel
theorem ints_two {W : World} {B : Nat} (hB : W.heap.size = B) (a b : Int) (t : TypeId) : IntsAt (some ⟨B, 0, none⟩) [a, b] (W.alloc (.cells #[.int .i64 a, .int .i64 b] t)) := by
  subst hB
  have hc : ∀ j, (W.alloc (.cells #[.int .i64 a, .int .i64 b] t)).cell? ⟨W.heap.size, j, none⟩ = (#[.int .i64 a, .int .i64 b] : Array Value)[j]? := fun j => World.cell?_alloc_new _ _ _ j
  intro i hi
  match i, hi with
  | 0, _ => exact ⟨W.heap.size, 0, rfl, by simp, hc 0⟩
  | 1, _ => exact ⟨W.heap.size, 0, rfl, by simp, hc 1⟩
theorem vars_one {W : World} {B : Nat} (hB : W.heap.size = B) (v : Vr) (t : TypeId) : VarsAt (some ⟨B, 0, none⟩) [v] (W.alloc (.cells #[.string (str v.1), .int .i64 v.2] t)) := by
  subst hB
  have hc : ∀ j, (W.alloc (.cells #[.string (str v.1), .int .i64 v.2] t)).cell? ⟨W.heap.size, j, none⟩ = (#[.string (str v.1), .int .i64 v.2] : Array Value)[j]? := fun j => World.cell?_alloc_new _ _ _ j
  intro i hi
  match i, hi with
  | 0, _ => exact ⟨W.heap.size, 0, rfl, by simp, hc 0, hc 1⟩
theorem vars_two {W : World} {B : Nat} (hB : W.heap.size = B) (v u : Vr) (t : TypeId) : VarsAt (some ⟨B, 0, none⟩) [v, u] (W.alloc (.cells #[.string (str v.1), .int .i64 v.2, .string (str u.1), .int .i64 u.2] t)) := by
  subst hB
  have hc : ∀ j, (W.alloc (.cells #[.string (str v.1), .int .i64 v.2, .string (str u.1), .int .i64 u.2] t)).cell? ⟨W.heap.size, j, none⟩ = (#[.string (str v.1), .int .i64 v.2, .string (str u.1), .int .i64 u.2] : Array Value)[j]? := fun j => World.cell?_alloc_new _ _ _ j
  intro i hi
  match i, hi with
  | 0, _ => exact ⟨W.heap.size, 0, rfl, by simp, hc 0, hc 1⟩
  | 1, _ => exact ⟨W.heap.size, 0, rfl, by simp, hc 2, hc 3⟩
theorem exprs_two {W : World} {B : Nat} (hB : W.heap.size = B) (a b : Ex) (sa sb : Option Addr) (ca cb : Nat) (t : TypeId) (ha : Lies (a, sa, ca) W) (hb : Lies (b, sb, cb) W) :
    ExprsAt (some ⟨B, 0, none⟩) [a, b] (W.alloc (.cells #[.int .i64 a.op, .int .i64 a.n, .string (str a.s), .slice sa a.args.length ca, .int .i64 b.op, .int .i64 b.n, .string (str b.s), .slice sb b.args.length cb] t)) := by
  subst hB
  have hal := bal (bref W) (.cells #[.int .i64 a.op, .int .i64 a.n, .string (str a.s), .slice sa a.args.length ca, .int .i64 b.op, .int .i64 b.n, .string (str b.s), .slice sb b.args.length cb] t)
  have h1 := ha.1.keep hal
  have h2 := hb.1.keep hal
  have hc : ∀ j, (W.alloc (.cells #[.int .i64 a.op, .int .i64 a.n, .string (str a.s), .slice sa a.args.length ca, .int .i64 b.op, .int .i64 b.n, .string (str b.s), .slice sb b.args.length cb] t)).cell? ⟨W.heap.size, j, none⟩ = (#[.int .i64 a.op, .int .i64 a.n, .string (str a.s), .slice sa a.args.length ca, .int .i64 b.op, .int .i64 b.n, .string (str b.s), .slice sb b.args.length cb] : Array Value)[j]? := fun j => World.cell?_alloc_new _ _ _ j
  have hsz : W.heap.size < (W.alloc (.cells #[.int .i64 a.op, .int .i64 a.n, .string (str a.s), .slice sa a.args.length ca, .int .i64 b.op, .int .i64 b.n, .string (str b.s), .slice sb b.args.length cb] t)).heap.size := by simp
  refine ExprsAt.mk fun i hi => ?_
  match i, hi with
  | 0, _ => exact ⟨W.heap.size, 0, sa, ca, rfl, hsz, hc 0, hc 1, hc 2, hc 3, h1, ha.2⟩
  | 1, _ => exact ⟨W.heap.size, 0, sb, cb, rfl, hsz, hc 4, hc 5, hc 6, hc 7, h2, hb.2⟩
theorem leaf_lies (o n : Int) (s : List UInt8) (W : World) : Lies (.mk o n s [], none, 0) W := ⟨ExprsAt.nil _ _, fun _ => rfl⟩
theorem lr1 (ao : Option Addr) (cap : Nat) (w : World) (h : IntsAt ao [2, 3] w) :
    Calls Tryd.prog 7 #[.int .i64 7, .slice ao 2 cap] w fun r w' => r = .returned (.tuple #[.int .i64 2, .bool true]) ∧ Below w.heap.size w w' := by
  have h1 := mResult 7 [2, 3] ao cap w h
  rw [res1] at h1
  exact h1
theorem lr2 (ao : Option Addr) (cap : Nat) (w : World) (h : IntsAt ao [2, 2] w) :
    Calls Tryd.prog 7 #[.int .i64 7, .slice ao 2 cap] w fun r w' => r = .returned (.tuple #[.int .i64 0, .bool false]) ∧ Below w.heap.size w w' := by
  have h1 := mResult 7 [2, 2] ao cap w h
  rw [res2] at h1
  exact h1
theorem lr3 (ao : Option Addr) (cap : Nat) (w : World) (h : IntsAt ao [4, 4] w) :
    Calls Tryd.prog 7 #[.int .i64 6, .slice ao 2 cap] w fun r w' => r = .returned (.tuple #[.int .i64 1, .bool true]) ∧ Below w.heap.size w w' := by
  have h1 := mResult 6 [4, 4] ao cap w h
  rw [res3] at h1
  exact h1
theorem lo6 (so : Option Addr) (cap : Nat) (w : World) (hG : Ge w) (hL : Lies (e6, so, cap) w) :
    Calls Tryd.prog 13 #[.agg #[.int .i64 5, .int .i64 0, .string ⟨#[]⟩, .slice so 2 cap], .slice none 0 0] w fun r w' => r = .returned (.tuple #[.int .i64 0, .int .i64 4]) ∧ Below w.heap.size w w' := by
  have h1 := mOf [] none 0 (by decide) e6 so cap w (by decide) hG (VarsAt.nil _ _) hL
  rw [ofT6] at h1
  exact h1
theorem lo7 (so : Option Addr) (cap : Nat) (w : World) (hG : Ge w) (hL : Lies (e7, so, cap) w) :
    Calls Tryd.prog 13 #[.agg #[.int .i64 5, .int .i64 0, .string ⟨#[]⟩, .slice so 2 cap], .slice none 0 0] w fun r w' => r = .returned (.tuple #[.int .i64 0, .int .i64 3]) ∧ Below w.heap.size w w' := by
  have h1 := mOf [] none 0 (by decide) e7 so cap w (by decide) hG (VarsAt.nil _ _) hL
  rw [ofT7] at h1
  exact h1
theorem lo8 (so vo : Option Addr) (cap vc : Nat) (w : World) (hG : Ge w) (hv : VarsAt vo [([120], 1)] w) (hL : Lies (e8, so, cap) w) :
    Calls Tryd.prog 13 #[.agg #[.int .i64 12, .int .i64 0, .string ⟨#[]⟩, .slice so 2 cap], .slice vo 1 vc] w fun r w' => r = .returned (.tuple #[.int .i64 5, .int .i64 0]) ∧ Below w.heap.size w w' := by
  have h1 := mOf [([120], 1)] vo vc (by decide) e8 so cap w (by decide) hG hv hL
  rw [ofT8] at h1
  exact h1
theorem lv (ao : Option Addr) (w : World) (hG : Ge w) (hv : VarsAt ao [([120], 1), ([120], 1)] w) :
    Calls Tryd.prog 10 #[.slice ao 2 2] w fun r w' => r = .returned (.int .i64 12) ∧ Below w.heap.size w w' := by
  have h1 := mVars [([120], 1), ([120], 1)] ao 2 w hG (by decide) hv
  rw [vsE2] at h1
  exact h1
/-- The three boxes of live. -/
def Three (b : Nat) (W : World) : Prop := Bx b (eOne, none, 0) W ∧ Bx (b + 1) (eCash, none, 0) W ∧ Bx (b + 1 + 1) (eX, none, 0) W
theorem Three.keep {b : Nat} {W W' : World} (h : Three b W) (hb : Below W.heap.size W W') : Three b W' := ⟨h.1.keep hb, h.2.1.keep hb, h.2.2.keep hb⟩
theorem Three.new (w0 : World) (t : TypeId) : Three w0.heap.size (((w0.alloc (.cells #[.int .i64 1, .int .i64 1, .string ⟨#[]⟩, .slice none 0 0] t)).alloc (.cells #[.int .i64 2, .int .i64 1, .string ⟨#[]⟩, .slice none 0 0] t)).alloc (.cells #[.int .i64 4, .int .i64 0, .string ⟨#[120]⟩, .slice none 0 0] t)) := by
  have h1 := Bx.new w0 (eOne, none, 0) t
  have h2 := Bx.new (w0.alloc (.cells #[.int .i64 1, .int .i64 1, .string ⟨#[]⟩, .slice none 0 0] t)) (eCash, none, 0) t
  have h3 := Bx.new ((w0.alloc (.cells #[.int .i64 1, .int .i64 1, .string ⟨#[]⟩, .slice none 0 0] t)).alloc (.cells #[.int .i64 2, .int .i64 1, .string ⟨#[]⟩, .slice none 0 0] t)) (eX, none, 0) t
  have e2 : (w0.alloc (.cells #[.int .i64 1, .int .i64 1, .string ⟨#[]⟩, .slice none 0 0] t)).heap.size = w0.heap.size + 1 := by simp
  have e3 : ((w0.alloc (.cells #[.int .i64 1, .int .i64 1, .string ⟨#[]⟩, .slice none 0 0] t)).alloc (.cells #[.int .i64 2, .int .i64 1, .string ⟨#[]⟩, .slice none 0 0] t)).heap.size = w0.heap.size + 1 + 1 := by simp
  rw [e2] at h2
  rw [e3] at h3
  exact ⟨(Bx.keep h1 (bal (bref _) _)).keep (bal (bref _) _), Bx.keep h2 (bal (bref _) _), h3⟩
set_option maxRecDepth 100000 in
set_option maxHeartbeats 4000000 in
theorem mlive (w0 : World) (hG : Ge w0) :
    Calls Tryd.prog 6 #[] w0 fun r w' => r = .returned (.bool true) ∧ Below w0.heap.size w0 w' := by
  have HG := Lib.hid hG
  have T0 := Lib.hid (Three.new w0 33)
  have HB0 := Lib.hid (show Below w0.heap.size w0 (((w0.alloc (.cells #[.int .i64 1, .int .i64 1, .string ⟨#[]⟩, .slice none 0 0] 33)).alloc (.cells #[.int .i64 2, .int .i64 1, .string ⟨#[]⟩, .slice none 0 0] 33)).alloc (.cells #[.int .i64 4, .int .i64 0, .string ⟨#[120]⟩, .slice none 0 0] 33)) from by repeat (first | exact bref _ | refine bdr ?_ | refine bal ?_ _))
  clear hG
  go_enter Tryd.func6, Tryd.ntmps6
  go_wp2_with fail
  refine (lr1 (some ⟨_, 0, none⟩) 2 _ (ints_two (by simp) 2 3 _)).mono ?_
  rintro r w1 ⟨rfl, hb⟩
  have HB1 := Lib.hid (btr (bal HB0.out _) hb)
  have T1 := Lib.hid ((T0.out.keep (bal (bref _) _)).keep hb)
  clear hb
  go_wp2_with fail
  refine (lr2 (some ⟨_, 0, none⟩) 2 _ (ints_two (by simp) 2 2 _)).mono ?_
  rintro r w2 ⟨rfl, hb⟩
  have HB2 := Lib.hid (btr (bal HB1.out _) hb)
  have T2 := Lib.hid ((T1.out.keep (bal (bref _) _)).keep hb)
  clear hb
  go_wp2_with fail
  refine (lr3 (some ⟨_, 0, none⟩) 2 _ (ints_two (by simp) 4 4 _)).mono ?_
  rintro r w3 ⟨rfl, hb⟩
  have HB3 := Lib.hid (btr (bal HB2.out _) hb)
  have T3 := Lib.hid ((T2.out.keep (bal (bref _) _)).keep hb)
  clear hb
  obtain ⟨⟨l0, o0, o1, o2, o3⟩, ⟨l1, c0, c1, c2, c3⟩, l2, x0, x1, x2, x3⟩ := T3.out
  simp only [eOne, eCash, eX, Ex.op, Ex.n, Ex.s, Ex.args, List.length_nil] at o0 o1 o2 o3 c0 c1 c2 c3 x0 x1 x2 x3
  go_wp2_with fail
  refine (lo6 (some ⟨_, 0, none⟩) 2 _ (HG.out.keep (bal (bal HB3.out _) _)) ⟨exprs_two (by simp) e6a eOne (some ⟨_, 0, none⟩) none 2 0 _ ⟨exprs_two rfl eX eCash none none 0 0 _ (leaf_lies _ _ _ _) (leaf_lies _ _ _ _), fun h => by cases h⟩ (leaf_lies _ _ _ _), fun h => by cases h⟩).mono ?_
  rintro r w4 ⟨rfl, hb⟩
  have HB4 := Lib.hid (btr (bal (bal HB3.out _) _) hb)
  have T4 := Lib.hid ((T3.out.keep (bal (bal (bref _) _) _)).keep hb)
  clear hb l0 l1 l2 o0 o1 o2 o3 c0 c1 c2 c3 x0 x1 x2 x3
  obtain ⟨⟨l0, o0, o1, o2, o3⟩, ⟨l1, c0, c1, c2, c3⟩, l2, x0, x1, x2, x3⟩ := T4.out
  simp only [eOne, eCash, eX, Ex.op, Ex.n, Ex.s, Ex.args, List.length_nil] at o0 o1 o2 o3 c0 c1 c2 c3 x0 x1 x2 x3
  go_wp2_with fail
  refine (lo7 (some ⟨_, 0, none⟩) 2 _ (HG.out.keep (bal (bal HB4.out _) _)) ⟨exprs_two (by simp) e7a eX (some ⟨_, 0, none⟩) none 2 0 _ ⟨exprs_two rfl eOne eCash none none 0 0 _ (leaf_lies _ _ _ _) (leaf_lies _ _ _ _), fun h => by cases h⟩ (leaf_lies _ _ _ _), fun h => by cases h⟩).mono ?_
  rintro r w5 ⟨rfl, hb⟩
  have HB5 := Lib.hid (btr (bal (bal HB4.out _) _) hb)
  have T5 := Lib.hid ((T4.out.keep (bal (bal (bref _) _) _)).keep hb)
  clear hb l0 l1 l2 o0 o1 o2 o3 c0 c1 c2 c3 x0 x1 x2 x3
  obtain ⟨⟨l0, o0, o1, o2, o3⟩, ⟨l1, c0, c1, c2, c3⟩, l2, x0, x1, x2, x3⟩ := T5.out
  simp only [eOne, eCash, eX, Ex.op, Ex.n, Ex.s, Ex.args, List.length_nil] at o0 o1 o2 o3 c0 c1 c2 c3 x0 x1 x2 x3
  go_wp2_with fail
  refine (lo8 (some ⟨_, 0, none⟩) (some ⟨_, 0, none⟩) 2 1 _ (HG.out.keep (bal (bal HB5.out _) _)) (vars_one (by simp) ([120], 1) _) (Lies.keep (w := _) ⟨exprs_two rfl eX eOne none none 0 0 _ (leaf_lies _ _ _ _) (leaf_lies _ _ _ _), fun h => by cases h⟩ (bal (bref _) _))).mono ?_
  rintro r w6 ⟨rfl, hb⟩
  have HB6 := Lib.hid (btr (bal (bal HB5.out _) _) hb)
  clear hb l0 l1 l2 o0 o1 o2 o3 c0 c1 c2 c3 x0 x1 x2 x3
  go_wp2_with fail
  refine (lv (some ⟨_, 0, none⟩) _ (HG.out.keep (bal HB6.out _)) (vars_two rfl ([120], 1) ([120], 1) _)).mono ?_
  rintro r w7 ⟨rfl, hb⟩
  have HB7 := Lib.hid (btr (bal HB6.out _) hb)
  clear hb
  go_wp2_with fail
  go_ret
  exact ⟨rfl, HB7.out⟩
end Go.Proofs.YtcnnkobiijhegaaDoor
