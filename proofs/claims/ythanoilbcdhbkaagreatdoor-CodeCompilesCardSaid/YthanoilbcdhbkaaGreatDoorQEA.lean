/-
  Expressions in memory, and the document's functions that only read them.
-/
import Derived.Test.YthanoilbcdhbkaaGreatDoorQA
import Derived.Test.YthanoilbcdhbkaaGreatDoorQEM
import Derived.Deep.RegionHeld3
namespace Go.Proofs.YthanoilbcdhbkaaGreatDoor
open Go Go.RowKit Go.Lib WM TM EM

def E0 : Ex := .mk 0 0 [] []
mutual
def In1 (w : World) : Ex → Option Addr → Prop
 | .mk _ _ _ a, so => InL w a so 0
def InL (w : World) : List Ex → Option Addr → Nat → Prop
 | [], _, _ => True
 | e :: l, ao, i => (∃ b off so cap, ao = some ⟨b, off, none⟩ ∧ b < w.heap.size ∧ w.cell? ⟨b, off + i * 4, none⟩ = some (.int .i64 e.op) ∧ w.cell? ⟨b, off + i * 4 + 1, none⟩ = some (.int .i64 e.n) ∧
   w.cell? ⟨b, off + i * 4 + 2, none⟩ = some (.string (str e.s)) ∧ w.cell? ⟨b, off + i * 4 + 3, none⟩ = some (.slice so e.args.length cap) ∧ In1 w e so ∧ (so = none → cap = 0)) ∧ InL w l ao (i + 1)
end
def ExprsAt (ao : Option Addr) (l : List Ex) (w : World) : Prop := InL w l ao 0
theorem in1_eq (w : World) (e : Ex) (so : Option Addr) : In1 w e so = ExprsAt so e.args w := by cases e; rfl
theorem inL_at {w : World} {ao : Option Addr} : ∀ (l : List Ex) (j : Nat), InL w l ao j → ∀ i, i < l.length → ∃ b off so cap, ao = some ⟨b, off, none⟩ ∧ b < w.heap.size ∧ w.cell? ⟨b, off + (j + i) * 4, none⟩ = some (.int .i64 (l.getD i E0).op) ∧
  w.cell? ⟨b, off + (j + i) * 4 + 1, none⟩ = some (.int .i64 (l.getD i E0).n) ∧ w.cell? ⟨b, off + (j + i) * 4 + 2, none⟩ = some (.string (str (l.getD i E0).s)) ∧
  w.cell? ⟨b, off + (j + i) * 4 + 3, none⟩ = some (.slice so (l.getD i E0).args.length cap) ∧ ExprsAt so (l.getD i E0).args w ∧ (so = none → cap = 0) := by
 intro l
 induction l with
 | nil => intro j _ i hi; exact absurd hi (Nat.not_lt_zero _)
 | cons e l ih =>
  intro j h i hi
  obtain ⟨⟨b, off, so, cap, h1, h2, h3, h4, h5, h6, h7, h8⟩, hl⟩ := h
  cases i with
  | zero => exact ⟨b, off, so, cap, h1, h2, h3, h4, h5, h6, by rw [in1_eq] at h7; exact h7, h8⟩
  | succ i =>
   have := ih (j + 1) hl i (Nat.lt_of_succ_lt_succ hi)
   rw [show j + 1 + i = j + (i + 1) by omega] at this
   exact this
theorem ExprsAt.at {w : World} {ao : Option Addr} {l : List Ex} (h : ExprsAt ao l w) (i : Nat) (hi : i < l.length) : ∃ b off so cap, ao = some ⟨b, off, none⟩ ∧ b < w.heap.size ∧ w.cell? ⟨b, off + i * 4, none⟩ = some (.int .i64 (l.getD i E0).op) ∧
  w.cell? ⟨b, off + i * 4 + 1, none⟩ = some (.int .i64 (l.getD i E0).n) ∧ w.cell? ⟨b, off + i * 4 + 2, none⟩ = some (.string (str (l.getD i E0).s)) ∧
  w.cell? ⟨b, off + i * 4 + 3, none⟩ = some (.slice so (l.getD i E0).args.length cap) ∧ ExprsAt so (l.getD i E0).args w ∧ (so = none → cap = 0) := by
 have := inL_at l 0 h i hi
 rwa [Nat.zero_add] at this
theorem inL_mk {w : World} {ao : Option Addr} : ∀ (l : List Ex) (j : Nat), (∀ i, i < l.length → ∃ b off so cap, ao = some ⟨b, off, none⟩ ∧ b < w.heap.size ∧ w.cell? ⟨b, off + (j + i) * 4, none⟩ = some (.int .i64 (l.getD i E0).op) ∧
  w.cell? ⟨b, off + (j + i) * 4 + 1, none⟩ = some (.int .i64 (l.getD i E0).n) ∧ w.cell? ⟨b, off + (j + i) * 4 + 2, none⟩ = some (.string (str (l.getD i E0).s)) ∧
  w.cell? ⟨b, off + (j + i) * 4 + 3, none⟩ = some (.slice so (l.getD i E0).args.length cap) ∧ ExprsAt so (l.getD i E0).args w ∧ (so = none → cap = 0)) → InL w l ao j := by
 intro l
 induction l with
 | nil => intro j _; trivial
 | cons e l ih =>
  intro j h
  refine ⟨?_, ih (j + 1) fun i hi => ?_⟩
  ·obtain ⟨b, off, so, cap, h1, h2, h3, h4, h5, h6, h7, h8⟩ := h 0 (by simp)
   exact ⟨b, off, so, cap, h1, h2, h3, h4, h5, h6, by rw [in1_eq]; exact h7, h8⟩
  ·have := h (i + 1) (by simpa using hi)
   rw [show j + (i + 1) = j + 1 + i by omega] at this
   exact this
theorem ExprsAt.mk {w : World} {ao : Option Addr} {l : List Ex} (h : ∀ i, i < l.length → ∃ b off so cap, ao = some ⟨b, off, none⟩ ∧ b < w.heap.size ∧ w.cell? ⟨b, off + i * 4, none⟩ = some (.int .i64 (l.getD i E0).op) ∧
  w.cell? ⟨b, off + i * 4 + 1, none⟩ = some (.int .i64 (l.getD i E0).n) ∧ w.cell? ⟨b, off + i * 4 + 2, none⟩ = some (.string (str (l.getD i E0).s)) ∧
  w.cell? ⟨b, off + i * 4 + 3, none⟩ = some (.slice so (l.getD i E0).args.length cap) ∧ ExprsAt so (l.getD i E0).args w ∧ (so = none → cap = 0)) : ExprsAt ao l w :=
 inL_mk l 0 (by simpa using h)
theorem ExprsAt.nil (ao : Option Addr) (w : World) : ExprsAt ao [] w := trivial
theorem siz_args {e : Ex} {x : Ex} (h : x ∈ e.args) : siz x < siz e := by
 obtain ⟨o, n, s, a⟩ := e
 rw [siz_mk]
 have := siz_mem (show x ∈ a from h)
 omega
theorem ex_ind (p : Ex → Prop) (h : ∀ e, (∀ x ∈ e.args, p x) → p e) : ∀ e, p e := by
 have : ∀ N e, siz e ≤ N → p e := by
  intro N
  induction N with
  | zero => intro e he; have := siz_pos e; omega
  | succ N ih => exact fun e he => h e fun x hx => ih x (by have := siz_args hx; omega)
 exact fun e => this _ e (Nat.le_refl _)
theorem exs_keep {w w' : World} (hb : Below w.heap.size w w') : ∀ e : Ex, ∀ ao, ExprsAt ao e.args w → ExprsAt ao e.args w' := by
 refine ex_ind _ fun e ih ao h => ExprsAt.mk fun i hi => ?_
 obtain ⟨b, off, so, cap, h1, h2, h3, h4, h5, h6, h7, h8⟩ := h.at i hi
 exact ⟨b, off, so, cap, h1, by have := hb.size; omega, keepc hb h3, keepc hb h4, keepc hb h5, keepc hb h6, ih _ (by simp [List.getD, hi]) so h7, h8⟩
theorem ExprsAt.keep {ao : Option Addr} {l : List Ex} {w w' : World} (h : ExprsAt ao l w) (hb : Below w.heap.size w w') : ExprsAt ao l w' := exs_keep hb (.mk 0 0 [] l) ao h
theorem ExprsAt.drewN {ao : Option Addr} {l : List Ex} {w : World} (h : ExprsAt ao l w) (z : Nat) : ExprsAt ao l (w.drewN z) := h.keep (bdn (bref w) z)
def vx (e : Ex) (so : Option Addr) (cap : Nat) : Value := .agg #[.int .i64 e.op, .int .i64 e.n, .string (str e.s), .slice so e.args.length cap]
theorem siz_eq (e : Ex) : siz e = sizs e.args + 1 := by cases e; exact siz_mk _ _ _ _
theorem sizs_take (l : List Ex) (k : Nat) (h : k < l.length) : sizs (l.take (k + 1)) = sizs (l.take k) + siz (l.getD k E0) := by
 rw [List.take_succ_eq_append_getElem h, sizs_app, sizs_cons, sizs_nil]
 simp [List.getD, h]
theorem sizs_take_le (l : List Ex) (k : Nat) : sizs (l.take k) ≤ sizs l := by
 rw [← List.take_append_drop k l, sizs_app]
 simp
theorem getD_mem'' {α : Type} (d : α) (l : List α) (k : Nat) (h : k < l.length) : l.getD k d ∈ l := by
 simp [List.getD, h]

theorem sizs_le (l : List Ex) (k : Nat) : k ≤ l.length → k ≤ sizs (l.take k) := by
 intro h
 have := sizs_len (l.take k)
 rw [List.length_take] at this
 omega
set_option maxRecDepth 100000 in
set_option maxHeartbeats 2000000 in
theorem rcount : ∀ (e : Ex) (m : Nat) (so : Option Addr) (cap : Nat) (w : World), m ≤ 100000 → ExprsAt so e.args w →
  Calls Tryz.prog 90 #[.agg #[.int .i64 e.op, .int .i64 e.n, .string (str e.s), .slice so e.args.length cap], .int .i64 m] w fun r w' => r = .returned (.int .i64 (min (siz e) (m + 1) : Nat)) ∧ Below w.heap.size w w' := by
 refine ex_ind _ fun e ih m so cap w hm h => ?_
 have HT := Lib.hid h
 obtain ⟨l, hl⟩ : ∃ l, e.args = l := ⟨_, rfl⟩
 obtain ⟨n, hn⟩ : ∃ n, l.length = n := ⟨_, rfl⟩
 obtain ⟨R, hR⟩ : ∃ R, min (siz e) (m + 1) = R := ⟨_, rfl⟩
 have HR : Hid (R = min (1 + sizs l) (m + 1)) := Lib.hid (by rw [← hR, siz_eq, hl, Nat.add_comm])
 rw [hl] at ih
 rw [hl] at HT h ⊢
 have IH := Lib.hid ih
 have HN := Lib.hid hn
 rw [hn, hR]
 clear h ih hn hl hR
 go_enter Tryz.func90, Tryz.ntmps90
 go_wp2_with fail
 go_loopw [5, 6] (fun x i wr => ∃ (k q : Nat), k ≤ n ∧ x = .int .i64 q ∧ i = .int .i64 k ∧ k + 1 ≤ q ∧ q ≤ m + 1 ∧ q = min (1 + sizs (l.take k)) (m + 1) ∧ wr.cell? ⟨w.heap.size, 3, none⟩ = some (.slice so n cap) ∧ Below w.heap.size w wr) (fun _ i _ => n - (RowKit.intOf i).toNat)
 case atStart => exact ⟨0, 1, by omega, rfl, rfl, by omega, by omega, by simp [sizs_nil], by simp [go_sem], by (repeat (first | exact bref _ | refine bdr ?_ | refine bal ?_ _))⟩
 case round =>
  obtain ⟨k, q, hk, rfl, rfl, hkq, hqm, hq, hc, hB⟩ := hrel
  have HQ := Lib.hid hq
  have HB := Lib.hid hB
  clear hq hB
  by_cases hlt : k < n
  ·have hkz : (k : Int) < (n : Int) := by omega
   by_cases hgo : q ≤ m
   ·obtain ⟨b, off, so2, cap2, rfl, hb, c0, c1, c2, c3, hs, _⟩ := (HT.out.keep HB.out).at k (by rw [HN.out]; exact hlt)
    have C0 := Lib.hid (fun W (hW : Below wr.heap.size wr W) => IH.out (l.getD k E0) (getD_mem'' _ _ _ (by rw [HN.out]; exact hlt)) (m - q) so2 cap2 W (by omega) (hs.keep hW))
    have ht := sizs_take l k (by rw [HN.out]; exact hlt)
    obtain ⟨x, hx⟩ : ∃ x, l.getD k E0 = x := ⟨_, rfl⟩
    rw [hx] at c0 c1 c2 c3 ht
    rw [hx] at C0
    obtain ⟨v, hv⟩ : ∃ v, min (siz x) (m - q + 1) = v := ⟨_, rfl⟩
    rw [hv] at C0
    have hsx := siz_pos x
    have hv1 : 1 ≤ v := by omega
    have hvm : v ≤ m - q + 1 := by omega
    have HV : Hid (q + v = min (1 + sizs (l.take (k + 1))) (m + 1)) := Lib.hid (by have := HQ.out; rw [ht]; omega)
    have hgz : (q : Int) ≤ (m : Int) := by omega
    have hmq : ((m - q : Nat) : Int) = (m : Int) - (q : Int) := by omega
    rw [hmq] at C0
    clear hs hx ht hv hmq
    go_wp2_with (go_at_call 90; refine (C0.out _ (by first | exact bref _ | exact bdr (bref _))).mono ?_; rintro r w1 ⟨rfl, hb1⟩)
    go_roundw
    case rel => exact ⟨k + 1, q + v, by omega, by go_num, by go_num, by omega, by omega, HV.out, keepc hb1 hc, btr HB.out hb1⟩
    case measure => simp [RowKit.intOf]; omega
   ·have hgz : ¬ (q : Int) ≤ (m : Int) := by omega
    have hRq : Hid (R = q) := Lib.hid (by have := HQ.out; have := HR.out; have := sizs_take_le l k; omega)
    go_wp2_with fail
    go_ret
    exact ⟨by rw [hRq.out]; rfl, HB.out⟩
  ·have he : k = n := by omega
   subst he
   have hRq : Hid (R = q) := Lib.hid (by have q1 := HQ.out; have h3 := HN.out; rw [List.take_of_length_le (by omega)] at q1; have := HR.out; omega)
   go_wp2_with fail
   go_ret
   exact ⟨by rw [hRq.out]; rfl, HB.out⟩

def grtB (e : Ex) (m : Nat) : Bool := decide (m < siz e)
set_option maxRecDepth 100000 in
theorem rgreat (e : Ex) (m : Nat) (so : Option Addr) (cap : Nat) (w : World) (hm : m ≤ 100000) (h : ExprsAt so e.args w) :
  Calls Tryz.prog 67 #[.agg #[.int .i64 e.op, .int .i64 e.n, .string (str e.s), .slice so e.args.length cap], .int .i64 m] w fun r w' => r = .returned (.bool (grtB e m)) ∧ Below w.heap.size w w' := by
 have C := Lib.hid (fun W (hW : Below w.heap.size w W) => rcount e m so cap W hm (h.keep hW))
 obtain ⟨R, hR⟩ : ∃ R, grtB e m = R := ⟨_, rfl⟩
 obtain ⟨q, hq⟩ : ∃ q, min (siz e) (m + 1) = q := ⟨_, rfl⟩
 rw [hq] at C
 rw [hR]
 have HR : Hid (R = decide (m < q)) := Lib.hid (by rw [← hR, ← hq]; unfold grtB; congr 1; apply propext; omega)
 clear hR hq h
 go_enter Tryz.func67, Tryz.ntmps67
 by_cases hlt : m < q
 ·have hz : (m : Int) < (q : Int) := by omega
  rw [show R = true by rw [HR.out]; exact decide_eq_true hlt]
  go_wp2_with (go_at_call 90; refine (C.out _ (by repeat (first | exact bref _ | refine bdr ?_ | refine bal ?_ _))).mono ?_; rintro r w1 ⟨rfl, hb1⟩)
  go_ret
  exact ⟨by simp, btr (by repeat (first | exact bref _ | refine bdr ?_ | refine bal ?_ _)) hb1⟩
 ·have hz : ¬ (m : Int) < (q : Int) := by omega
  rw [show R = false by rw [HR.out]; exact decide_eq_false hlt]
  go_wp2_with (go_at_call 90; refine (C.out _ (by repeat (first | exact bref _ | refine bdr ?_ | refine bal ?_ _))).mono ?_; rintro r w1 ⟨rfl, hb1⟩)
  go_ret
  exact ⟨by simp, btr (by repeat (first | exact bref _ | refine bdr ?_ | refine bal ?_ _)) hb1⟩

set_option maxRecDepth 100000 in
set_option maxHeartbeats 2000000 in
theorem rnodes : ∀ (e : Ex) (so : Option Addr) (cap : Nat) (w : World), siz e ≤ 4000000000000000000 → ExprsAt so e.args w →
  Calls Tryz.prog 25 #[.agg #[.int .i64 e.op, .int .i64 e.n, .string (str e.s), .slice so e.args.length cap]] w fun r w' => r = .returned (.int .i64 (siz e : Nat)) ∧ Below w.heap.size w w' := by
 refine ex_ind _ fun e ih so cap w hm h => ?_
 have HT := Lib.hid h
 obtain ⟨l, hl⟩ : ∃ l, e.args = l := ⟨_, rfl⟩
 obtain ⟨n, hn⟩ : ∃ n, l.length = n := ⟨_, rfl⟩
 obtain ⟨R, hR⟩ : ∃ R, siz e = R := ⟨_, rfl⟩
 have HR : Hid (R = 1 + sizs l) := Lib.hid (by rw [← hR, siz_eq, hl, Nat.add_comm])
 rw [hl] at ih
 rw [hl] at HT h ⊢
 have IH := Lib.hid ih
 have HN := Lib.hid hn
 rw [hn, hR]
 rw [hR] at hm
 clear h ih hn hl hR
 go_enter Tryz.func25, Tryz.ntmps25
 go_wp2_with fail
 go_loopw [3, 4] (fun x i wr => ∃ (k q : Nat), k ≤ n ∧ x = .int .i64 q ∧ i = .int .i64 k ∧ k + 1 ≤ q ∧ q ≤ R ∧ q = 1 + sizs (l.take k) ∧ wr.cell? ⟨w.heap.size, 3, none⟩ = some (.slice so n cap) ∧ Below w.heap.size w wr) (fun _ i _ => n - (RowKit.intOf i).toNat)
 case atStart => exact ⟨0, 1, by omega, rfl, rfl, by omega, by have := HR.out; omega, by simp [sizs_nil], by simp [go_sem], by (repeat (first | exact bref _ | refine bdr ?_ | refine bal ?_ _))⟩
 case round =>
  obtain ⟨k, q, hk, rfl, rfl, hkq, hqm, hq, hc, hB⟩ := hrel
  have HQ := Lib.hid hq
  have HB := Lib.hid hB
  clear hq hB
  by_cases hlt : k < n
  ·have hkz : (k : Int) < (n : Int) := by omega
   obtain ⟨b, off, so2, cap2, rfl, hb, c0, c1, c2, c3, hs, _⟩ := (HT.out.keep HB.out).at k (by rw [HN.out]; exact hlt)
   have ht := sizs_take l k (by rw [HN.out]; exact hlt)
   have hle := sizs_take_le l (k + 1)
   have C0 := Lib.hid (fun W (hW : Below wr.heap.size wr W) => IH.out (l.getD k E0) (getD_mem'' _ _ _ (by rw [HN.out]; exact hlt)) so2 cap2 W (by have := HR.out; omega) (hs.keep hW))
   obtain ⟨x, hx⟩ : ∃ x, l.getD k E0 = x := ⟨_, rfl⟩
   rw [hx] at c0 c1 c2 c3 ht
   rw [hx] at C0
   obtain ⟨v, hv⟩ : ∃ v, siz x = v := ⟨_, rfl⟩
   rw [hv] at C0
   have hsx := siz_pos x
   have hv1 : 1 ≤ v := by omega
   have hvm : q + v ≤ R := by have := HQ.out; have := HR.out; omega
   have HV : Hid (q + v = 1 + sizs (l.take (k + 1))) := Lib.hid (by have := HQ.out; rw [ht]; omega)
   clear hs hx ht hv hle
   go_wp2_with (go_at_call 25; refine (C0.out _ (by first | exact bref _ | exact bdr (bref _))).mono ?_; rintro r w1 ⟨rfl, hb1⟩)
   go_roundw
   case rel => exact ⟨k + 1, q + v, by omega, by go_num, by go_num, by omega, by omega, HV.out, keepc hb1 hc, btr HB.out hb1⟩
   case measure => simp [RowKit.intOf]; omega
  ·have he : k = n := by omega
   subst he
   have hRq : Hid (R = q) := Lib.hid (by have q1 := HQ.out; have h3 := HN.out; rw [List.take_of_length_le (by omega)] at q1; have := HR.out; omega)
   go_wp2_with fail
   go_ret
   exact ⟨by rw [hRq.out]; rfl, HB.out⟩

theorem deps_take (l : List Ex) (k : Nat) (h : k < l.length) : deps (l.take (k + 1)) = max (deps (l.take k)) (dep (l.getD k E0)) := by
 rw [List.take_succ_eq_append_getElem h]
 have key : ∀ (m : List Ex) (x : Ex), deps (m ++ [x]) = max (deps m) (dep x) := by
  intro m x
  induction m with
  | nil => simp [deps]
  | cons y m ih => simp only [List.cons_append, deps, ih]; omega
 rw [key]
 simp [List.getD, h]
theorem dep_eq (e : Ex) : dep e = deps e.args + 1 := by cases e; rfl
theorem dep_le : ∀ e, dep e ≤ siz e := by
 refine ex_ind _ fun e ih => ?_
 rw [dep_eq, siz_eq]
 have : ∀ l : List Ex, (∀ x ∈ l, dep x ≤ siz x) → deps l ≤ sizs l := by
  intro l
  induction l with
  | nil => intro _; exact Nat.le_refl _
  | cons x l ihl =>
   intro h
   rw [sizs_cons, deps]
   have h1 := h x (by simp)
   have h2 := ihl (fun y hy => h y (by simp [hy]))
   omega
 have := this e.args ih
 omega
set_option maxRecDepth 100000 in
set_option maxHeartbeats 2000000 in
theorem rdepth : ∀ (e : Ex) (so : Option Addr) (cap : Nat) (w : World), siz e ≤ 100000 → ExprsAt so e.args w →
  Calls Tryz.prog 68 #[.agg #[.int .i64 e.op, .int .i64 e.n, .string (str e.s), .slice so e.args.length cap]] w fun r w' => r = .returned (.int .i64 (dep e : Nat)) ∧ Below w.heap.size w w' := by
 refine ex_ind _ fun e ih so cap w hm h => ?_
 have HT := Lib.hid h
 have hd := dep_le e
 obtain ⟨l, hl⟩ : ∃ l, e.args = l := ⟨_, rfl⟩
 obtain ⟨n, hn⟩ : ∃ n, l.length = n := ⟨_, rfl⟩
 obtain ⟨R, hR⟩ : ∃ R, dep e = R := ⟨_, rfl⟩
 have HR : Hid (R = deps l + 1) := Lib.hid (by rw [← hR, dep_eq, hl])
 have HZ : Hid (siz e = sizs l + 1) := Lib.hid (by rw [siz_eq, hl])
 have hnl : n ≤ 100000 := by have := HZ.out; have := sizs_len l; omega
 rw [hl] at ih
 rw [hl] at HT h ⊢
 have IH := Lib.hid ih
 have HN := Lib.hid hn
 rw [hn, hR]
 rw [hR] at hd
 have HM := Lib.hid hm
 have hRs : R ≤ 100000 := by omega
 clear h ih hn hl hR hd hm
 go_enter Tryz.func68, Tryz.ntmps68
 go_wp2_with fail
 go_loopw [3, 4] (fun x i wr => ∃ (k q : Nat), k ≤ n ∧ x = .int .i64 q ∧ i = .int .i64 k ∧ q + 1 ≤ R ∧ q = deps (l.take k) ∧ wr.cell? ⟨w.heap.size, 3, none⟩ = some (.slice so n cap) ∧ Below w.heap.size w wr) (fun _ i _ => n - (RowKit.intOf i).toNat)
 case atStart => exact ⟨0, 0, by omega, rfl, rfl, by have := HR.out; omega, by simp [deps], by simp [go_sem], by (repeat (first | exact bref _ | refine bdr ?_ | refine bal ?_ _))⟩
 case round =>
  obtain ⟨k, q, hk, rfl, rfl, hqm, hq, hc, hB⟩ := hrel
  have HQ := Lib.hid hq
  have HB := Lib.hid hB
  clear hq hB
  by_cases hlt : k < n
  ·have hkz : (k : Int) < (n : Int) := by omega
   obtain ⟨b, off, so2, cap2, rfl, hb, c0, c1, c2, c3, hs, _⟩ := (HT.out.keep HB.out).at k (by rw [HN.out]; exact hlt)
   have ht := deps_take l k (by rw [HN.out]; exact hlt)
   have hmem := getD_mem'' E0 l k (by rw [HN.out]; exact hlt)
   have hsm := siz_mem hmem
   have C0 := Lib.hid (fun W (hW : Below wr.heap.size wr W) => IH.out (l.getD k E0) hmem so2 cap2 W (by have := HZ.out; have := HM.out; omega) (hs.keep hW))
   have hdx : dep (l.getD k E0) + 1 ≤ R := by
    rw [HR.out]
    have : ∀ (m : List Ex) (y : Ex), y ∈ m → dep y ≤ deps m := by
     intro m y hy
     induction m with
     | nil => cases hy
     | cons z m ihm =>
      rw [deps]
      rcases List.mem_cons.1 hy with rfl | hy
      ·omega
      ·have := ihm hy; omega
    have := this l _ hmem
    omega
   obtain ⟨x, hx⟩ : ∃ x, l.getD k E0 = x := ⟨_, rfl⟩
   rw [hx] at c0 c1 c2 c3 ht hdx
   rw [hx] at C0
   obtain ⟨v, hv⟩ : ∃ v, dep x = v := ⟨_, rfl⟩
   rw [hv] at C0 hdx ht
   obtain ⟨u, hu⟩ : ∃ u, max q v = u := ⟨_, rfl⟩
   have huz : max (q : Int) (v : Int) = (u : Int) := by omega
   have HV : Hid (u = deps (l.take (k + 1)) ∧ u + 1 ≤ R) := Lib.hid ⟨by have := HQ.out; rw [ht]; omega, by omega⟩
   clear hs hx ht hv hmem hsm hu hdx
   go_wp2_with (go_at_call 68; refine (C0.out _ (by first | exact bref _ | exact bdr (bref _))).mono ?_; rintro r w1 ⟨rfl, hb1⟩)
   go_roundw
   case rel => exact ⟨k + 1, u, by omega, rfl, by go_num, HV.out.2, HV.out.1, keepc hb1 hc, btr HB.out hb1⟩
   case measure => simp [RowKit.intOf]; omega
  ·have he : k = n := by omega
   subst he
   have hRq : Hid (R = q + 1) := Lib.hid (by have q1 := HQ.out; have h3 := HN.out; rw [List.take_of_length_le (by omega)] at q1; have := HR.out; omega)
   go_wp2_with fail
   go_ret
   exact ⟨by rw [hRq.out]; rfl, HB.out⟩
end Go.Proofs.YthanoilbcdhbkaaGreatDoor
