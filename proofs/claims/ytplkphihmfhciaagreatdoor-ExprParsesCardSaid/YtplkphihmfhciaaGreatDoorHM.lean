/-
  Lists of tokens that a call owns; the law's short; bounds.
-/
import Derived.Test.YtplkphihmfhciaaGreatDoorEQ
import Derived.Test.YtplkphihmfhciaaGreatDoorMK
import Derived.Test.YtplkphihmfhciaaGreatDoorGP
namespace Go.Proofs.YtplkphihmfhciaaGreatDoor
open Go Go.RowKit Go.Lib Go.Shelf WM TM EM

theorem grt_siz {e : Ex} {m : Nat} (h : grtB e m = false) : siz e ≤ m := by
 unfold grtB at h
 have := of_decide_eq_false h
 omega
theorem toks_app (l m : List Tok) : toks (l ++ m) = toks l ++ toks m := by
 induction l with
 | nil => rfl
 | cons t l ih => show tcells t ++ toks (l ++ m) = tcells t ++ toks l ++ toks m; rw [ih, List.append_assoc]
theorem toks_mem (m : List Tok) : ∀ u ∈ toks m, u.oneCell' = true := by
 induction m with
 | nil => intro u hu; cases hu
 | cons t m ih =>
  intro u hu
  rcases List.mem_append.1 (show u ∈ tcells t ++ toks m from hu) with h | h
  ·simp only [tcells, List.mem_cons, List.not_mem_nil, or_false] at h
   rcases h with rfl | rfl | rfl <;> rfl
  ·exact ih u h
theorem toks_news {w : World} {ao : Option Addr} {m : List Tok} (h : TokensAt ao m w) : ∀ ad, ao = some ad → ∀ j u, (toks m)[j]? = some u → w.cell? (ad.add j) = some u := by
 intro ad had j u hu
 have hj : j < (toks m).length := (List.getElem?_eq_some_iff.1 hu).1
 rw [toks_length] at hj
 obtain ⟨i, r, hr, rfl⟩ : ∃ i r, r < 3 ∧ j = i * 3 + r := ⟨j / 3, j % 3, by omega, by omega⟩
 have hi : i < m.length := by omega
 obtain ⟨b, off, hao, _, c0, c1, c2⟩ := h i hi
 rw [had] at hao
 cases hao
 obtain ⟨t0, t1, t2⟩ := toks_at m i hi
 rw [Addr.add_lit]
 match r, hr with
 | 0, _ => rw [Nat.add_zero] at hu ⊢; rw [t0] at hu; cases hu; exact c0
 | 1, _ => rw [t1] at hu; cases hu; rw [← Nat.add_assoc]; exact c1
 | 2, _ => rw [t2] at hu; cases hu; rw [← Nat.add_assoc]; exact c2
def OT (base : Nat) (v : Value) (l : List Tok) (W : World) : Prop := W.ownsRow base 44 3 v l.length (toks l)
theorem OT.nil (base : Nat) (W : World) : OT base (.slice none 0 0) [] W := World.ownsRow_nil _ _ _ _
theorem OT.keep {base : Nat} {v : Value} {l : List Tok} {W W' : World} (h : OT base v l W) (hb : Below W.heap.size W W') : OT base v l W' := own_below h hb
theorem OT.shape {base : Nat} {v : Value} {l : List Tok} {W : World} (h : OT base v l W) : ∃ ao c, v = .slice ao l.length c ∧ l.length ≤ c ∧ TokensAt ao l W ∧ (ao = none → l.length = 0 ∧ c = 0) := by
 obtain ⟨_, ao, c, hv, hT⟩ := own_toks h
 refine ⟨ao, c, hv, ?_, hT, ?_⟩
 ·rcases h.2 with ⟨h1, h2⟩ | ⟨g, cap, cur, h1, _, _, hnc, _⟩
  ·rw [h1, h2] at hv; cases hv; omega
  ·rw [h1] at hv; cases hv; omega
 ·intro hn
  subst hn
  rcases h.2 with ⟨h1, h2⟩ | ⟨g, cap, cur, h1, _⟩
  ·rw [h1, h2] at hv; cases hv; exact ⟨h2, rfl⟩
  ·rw [h1] at hv; cases hv
theorem wpList_app_toks {w : World} {ops : Array Oper} {rest : List Oper} {o : Oper} {a : Act} {Q : Exit → Act → World → Prop} (hgd : o.guard = none) (s x : Operand)
  (ho : o.op = .call { callee := .builtin .append, args := #[s, x], argTypes := #[22, 22] })
  (base : Nat) (v : Value) (l : List Tok) (hs : a.eval s = v) (hown : OT base v l w) (ao : Option Addr) (m : List Tok) (c : Nat) (hx : a.eval x = .slice ao m.length c) (hm : TokensAt ao m w) (hnone : ao = none → m.length = 0 ∧ c = 0)
  (hl : l.length + m.length ≤ 10000000) (hbase : base ≤ w.heap.size)
  (h : ∀ v' w', OT base v' (l ++ m) w' → Below base w w' → wpList Tryz.prog ops Q rest (a.put o.dst v') w') : wpList Tryz.prog ops Q (o :: rest) a w := by
 obtain ⟨i, hi, hz, hz1, hz2⟩ := info_parts infoTok
 refine wpList_append_own_any hgd s x 22 ho base 44 i _ 3 32 Tryz.underlying22 hi hz hz1 hz2 rfl (by decide) v l.length (toks l) hs hown ao m.length c (toks m) hx (toks_length m) hnone (toks_news hm) (toks_mem m) (by unfold maxLen; omega) (by omega) hbase fun v' w' h2 h3 => ?_
 refine h v' w' ?_ ((Below.refl base w).grown h3 hbase (fun b hb => (hown.lt b hb).1))
 unfold OT
 rw [toks_app, List.length_append]
 exact h2
theorem tok_new (W : World) (k : Int) (x : List UInt8) (t : TypeId) : TokensAt (some ⟨W.heap.size, 0, none⟩) [EM.tk k x] (W.alloc (.cells #[.int .i64 k, .int .i64 1, .string (str x)] t)) := by
 intro i hi
 have : i = 0 := by simp at hi; exact hi
 subst this
 exact ⟨W.heap.size, 0, rfl, by simp, by simp [EM.tk], by simp [EM.tk], by simp [EM.tk]⟩
theorem tok_new2 (W : World) (k : Int) (x : List UInt8) (k2 : Int) (x2 : List UInt8) (t : TypeId) : TokensAt (some ⟨W.heap.size, 0, none⟩) [EM.tk k x, EM.tk k2 x2] (W.alloc (.cells #[.int .i64 k, .int .i64 1, .string (str x), .int .i64 k2, .int .i64 1, .string (str x2)] t)) := by
 intro i hi
 match i, hi with
 | 0, _ => exact ⟨W.heap.size, 0, rfl, by simp, by simp [EM.tk], by simp [EM.tk], by simp [EM.tk]⟩
 | 1, _ => exact ⟨W.heap.size, 0, rfl, by simp, by simp [EM.tk], by simp [EM.tk], by simp [EM.tk]⟩
theorem tok_some {ao : Option Addr} {m : List Tok} {W : World} (h : TokensAt ao m W) (hm : 0 < m.length) : ao ≠ none := by
 intro e
 subst e
 obtain ⟨_, _, e, _⟩ := h 0 hm
 cases e
theorem body_pos {e : Ex} (h : right e = true) : 0 < (body e).length := by
 obtain ⟨o, n, s, a⟩ := e
 have h1 := (fmd_parts (right_parts h).1).1
 match a, h1 with
 | [], _ => rw [body]; unfold leaf; (repeat' split) <;> simp
 | [_], _ => rw [body]; simp
 | [_, _], _ => rw [body]; split <;> simp <;> omega
 | [_, _, _], _ => rw [body]; simp
 | _ :: _ :: _ :: _ :: _, h1 => have := opn_le o; simp at h1; omega
theorem wr_pos {e : Ex} (h : right e = true) (r : Nat) : 0 < (wr r e).length := by
 have := body_pos h
 unfold wr par
 split
 ·simp
 ·exact this
def sh10 (l : List Tok) : Bool := (l.take 300).all (fun t => decide (t.2.2.length ≤ 100)) && decide (l.length ≤ 300)
theorem sh10_parts {l : List Tok} (h : sh10 l = true) : l.length ≤ 300 ∧ ∀ t ∈ l, t.2.2.length ≤ 100 := by
 unfold sh10 at h
 rw [Bool.and_eq_true, decide_eq_true_eq] at h
 obtain ⟨h1, h2⟩ := h
 rw [List.take_of_length_le h2, List.all_eq_true] at h1
 exact ⟨h2, fun t ht => of_decide_eq_true (h1 t ht)⟩
set_option maxRecDepth 100000 in
set_option maxHeartbeats 2000000 in
theorem mshort10 (ao : Option Addr) (l : List Tok) (c : Nat) (w : World) (h : TokensAt ao l w) :
  Calls Tryz.prog 8 #[.slice ao l.length c] w fun e w' => e = .returned (.bool (sh10 l)) ∧ w = w' := by
 have HT := Lib.hid h
 obtain ⟨n, hn⟩ : ∃ n, l.length = n := ⟨_, rfl⟩
 have HN := Lib.hid hn
 obtain ⟨R, hR⟩ : ∃ R, sh10 l = R := ⟨_, rfl⟩
 have HR : Hid (R = ((l.take 300).all (fun t => decide (t.2.2.length ≤ 100)) && decide (n ≤ 300))) := Lib.hid (by rw [← hR, ← hn]; rfl)
 rw [hR, hn]
 clear h hn hR
 go_enter Tryz.func8, Tryz.ntmps8
 go_wp2_with fail
 go_loop [3] (fun i => ∃ (k : Nat), k ≤ n ∧ k ≤ 300 ∧ i = .int .i64 k ∧ ((l.take k).all fun t => decide (t.2.2.length ≤ 100)) = true) (fun i => n - (RowKit.intOf i).toNat)
 case atStart => exact ⟨0, by omega, by omega, rfl, rfl⟩
 case round =>
  obtain ⟨k, hk, hk3, rfl, hA⟩ := hrel
  have HA := Lib.hid hA
  clear hA
  by_cases hlt : k < n
  ·have hkz : (k : Int) < (n : Int) := by omega
   by_cases h300 : k < 300
   ·have hk3z : (k : Int) < 300 := by omega
    obtain ⟨b, off, rfl, hb, c0, c1, c2⟩ := HT.out k (by rw [HN.out]; exact hlt)
    have ht := take_g T0 l k (by rw [HN.out]; exact hlt)
    have ht3 : l.getD k T0 ∈ l.take 300 := by
     have := getD_mem' T0 (l.take 300) k (by rw [List.length_take, HN.out]; omega)
     have e : (l.take 300).getD k T0 = l.getD k T0 := by simp [List.getD, h300]
     rwa [e] at this
    obtain ⟨x, hx⟩ : ∃ x, l.getD k T0 = x := ⟨_, rfl⟩
    rw [hx] at c0 c1 c2 ht ht3
    obtain ⟨X, hX⟩ : ∃ X, str x.2.2 = X := ⟨_, rfl⟩
    have hXl : X.size = x.2.2.length := by rw [← hX, str_size]
    rw [hX] at c2
    by_cases hq : 100 < X.size
    ·have hqz : (100 : Int) < (X.size : Int) := by omega
     have HR2 : Hid (R = false) := Lib.hid (by
      rw [HR.out, Bool.and_eq_false_iff]
      exact Or.inl (List.all_eq_false.2 ⟨x, ht3, by simp; omega⟩))
     clear hx ht ht3 hX hXl hq
     go_wp2_with fail
     go_ret
     exact ⟨by rw [HR2.out]; rfl, rfl⟩
    ·have hqz : ¬ (100 : Int) < (X.size : Int) := by omega
     have HA2 : Hid (((l.take (k + 1)).all fun t => decide (t.2.2.length ≤ 100)) = true) := Lib.hid (by
      rw [ht, List.all_append, HA.out]
      simp; omega)
     clear hx ht ht3 hX hXl hq
     go_wp2_with fail
     go_round
     case rel => exact ⟨k + 1, by omega, by omega, by go_num, HA2.out⟩
     case measure => simp [RowKit.intOf]; omega
   ·have hk3z : ¬ ((k : Int) < 300) := by omega
    have hnz : ¬ ((n : Int) ≤ 300) := by omega
    have hd : decide ((n : Int) ≤ 300) = false := decide_eq_false hnz
    have HR2 : Hid (R = false) := Lib.hid (by rw [HR.out, decide_eq_false (show ¬ n ≤ 300 by omega), Bool.and_false])
    go_wp2_with fail
    go_ret
    exact ⟨by rw [HR2.out]; rfl, rfl⟩
  ·have he : k = n := by omega
   subst he
   have hnz : ((k : Int) ≤ 300) := by omega
   have hd : decide ((k : Int) ≤ 300) = true := decide_eq_true hnz
   have HR2 : Hid (R = true) := Lib.hid (by
    rw [HR.out, decide_eq_true hk3, Bool.and_true]
    have := HA.out
    rw [List.take_of_length_le (by rw [HN.out]; exact Nat.le_refl _)] at this
    rw [List.take_of_length_le (by rw [HN.out]; omega)]
    exact this)
   go_wp2_with fail
   go_ret
   exact ⟨by rw [HR2.out]; rfl, rfl⟩
end Go.Proofs.YtplkphihmfhciaaGreatDoor
