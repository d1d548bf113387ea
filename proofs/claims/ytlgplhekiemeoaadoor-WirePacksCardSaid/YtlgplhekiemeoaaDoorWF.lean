/-
  Lists that the call owns; the document's own Unpack and TakeInts.
-/
import Derived.Test.YtlgplhekiemeoaaDoorWE
import Derived.OwnWalk
import Derived.LoopN
import Derived.ArgAppend
namespace Go.Proofs.YtlgplhekiemeoaaDoor
open Go Go.RowKit Go.Lib WM

def vals (l : List Int) : List Value := l.map (Value.int .i64)
def txts (l : List ByteArray) : List Value := l.map Value.string
theorem info3 : (Tryd.prog.info? 3).map (fun i => (i.zero, i.size, i.bytes)) = some (some (.int .i64 0), 1, 8) := by kernel_rfl
theorem infoT : (Tryd.prog.info? 9).map (fun i => (i.zero, i.size, i.bytes)) = some (some (.string ⟨#[]⟩), 1, 16) := by kernel_rfl
theorem own_below {w w' : World} {base : Nat} {e : TypeId} {size : Nat} {v : Value} {n : Nat} {xs : List Value} (h : w.ownsRow base e size v n xs) (hb : Below w.heap.size w w') : w'.ownsRow base e size v n xs := by
  refine ⟨h.1, ?_⟩
  rcases h.2 with hn | ⟨g, cap, cur, rfl, hbg, hg, rest⟩
  · exact Or.inl hn
  · refine Or.inr ⟨g, cap, cur, rfl, hbg, ?_, rest⟩
    rw [hb.block g (Array.getElem?_eq_some_iff.1 hg).1]
    exact hg
theorem own_base {w : World} {b b' : Nat} {e : TypeId} {size : Nat} {v : Value} {n : Nat} {xs : List Value} (h : w.ownsRow b e size v n xs) (hb : b' ≤ b) : w.ownsRow b' e size v n xs := by
  refine ⟨h.1, ?_⟩
  rcases h.2 with hn | ⟨g, cap, cur, rfl, hbg, rest⟩
  · exact Or.inl hn
  · exact Or.inr ⟨g, cap, cur, rfl, by omega, rest⟩
/-- What a list of the call's own is: its elements lie there. -/
theorem own_cells {w : World} {base n : Nat} {e : TypeId} {v : Value} {l : List Value} (h : w.ownsRow base e 1 v n l) :
    l.length = n ∧ ∃ ao cap, v = .slice ao n cap ∧ n ≤ cap ∧ (∀ a, ao = some a → base ≤ a.block) ∧ (ao = none → n = 0 ∧ cap = 0) ∧ ∀ j (hj : j < l.length), ∃ g, ao = some ⟨g, 0, none⟩ ∧ g < w.heap.size ∧ w.cell? ⟨g, 0 + j, none⟩ = some l[j] := by
  obtain ⟨h0, h1⟩ := h
  have hl : l.length = n := by simpa using h0
  refine ⟨hl, ?_⟩
  rcases h1 with ⟨rfl, rfl⟩ | ⟨g, cap, cur, rfl, hb, hg, hnc, _, hcs, htake⟩
  · exact ⟨none, 0, rfl, Nat.le_refl _, fun a h => (by cases h), fun _ => ⟨rfl, rfl⟩, fun j hj => absurd hj (by omega)⟩
  · refine ⟨some ⟨g, 0, none⟩, cap, rfl, hnc, fun a h => (by cases h; exact hb), fun h => (by cases h), fun j hj => ⟨g, rfl, (Array.getElem?_eq_some_iff.1 hg).1, ?_⟩⟩
    rw [Nat.zero_add, cell_of_row _ _ j cur _ (0, 0) hg]
    have h2 : (cur.toList.take (n * 1))[j]? = l[j]? := by rw [htake]
    rw [List.getElem?_take, if_pos (by omega)] at h2
    rw [← Array.getElem?_toList, h2, List.getElem?_eq_getElem hj]
theorem own_ints {w : World} {base n : Nat} {v : Value} {l : List Int} (h : w.ownsRow base 3 1 v n (vals l)) :
    l.length = n ∧ ∃ ao cap, v = .slice ao n cap ∧ IntsAt ao l w := by
  obtain ⟨h0, ao, cap, h1, _, _, _, h2⟩ := own_cells h
  refine ⟨by simpa [vals] using h0, ao, cap, h1, fun i hi => ?_⟩
  obtain ⟨g, h3, h4, h5⟩ := h2 i (by simpa [vals] using hi)
  exact ⟨g, 0, h3, h4, by rw [h5]; simp [vals, List.getD, hi]⟩
theorem own_txts {w : World} {base n : Nat} {v : Value} {l : List ByteArray} (h : w.ownsRow base 9 1 v n (txts l)) :
    l.length = n ∧ ∃ ao cap, v = .slice ao n cap ∧ TextsAt ao l w := by
  obtain ⟨h0, ao, cap, h1, _, _, _, h2⟩ := own_cells h
  refine ⟨by simpa [txts] using h0, ao, cap, h1, fun i hi => ?_⟩
  obtain ⟨g, h3, h4, h5⟩ := h2 i (by simpa [txts] using hi)
  exact ⟨g, 0, h3, h4, by rw [h5]; simp [txts, List.getD, hi]⟩
/-- One cell that was just laid, as 'append' asks for it. -/
theorem news1 (w : World) (z : Value) (t : TypeId) : ∀ ad : Addr, some (⟨w.heap.size, 0, none⟩ : Addr) = some ad → ∀ j u, ([z] : List Value)[j]? = some u → (w.alloc (.cells #[z] t)).cell? (ad.add j) = some u := by
  intro ad e j u hj
  cases e
  match j, hj with
  | 0, hj => simp at hj; subst hj; simp [Addr.add]
theorem one1 (z : Value) (h : z.oneCell' = true) : ∀ u ∈ ([z] : List Value), u.oneCell' = true := by intro u hu; simp at hu; subst hu; exact h
/-- 'append' of one value, just laid, onto a list of the call's own. -/
theorem wpList_append_one {P : Program} {e : TypeId} {w0 w : World} {ops : Array Oper} {rest : List Oper} {o : Oper} {a : Act} {Q : Exit → Act → World → Prop} (z : Value) (hw : w = w0.alloc (.cells #[z] e)) (hgd : o.guard = none) (s x : Operand) (t : TypeId)
    (ho : o.op = .call { callee := .builtin .append, args := #[s, x], argTypes := #[t, t] })
    (base : Nat) (i : TypeInfo) (d : Value) (bytes : Nat) (ht : P.underlying t = some (.slice e)) (hi : P.info? e = some i) (hz : i.zero = some d)
    (hsize : i.size = 1) (hby : i.bytes = bytes) (hzs : d.cells.size = 1)
    (v : Value) (n : Nat) (xs : List Value) (hs : a.eval s = v) (hown : w0.ownsRow base e 1 v n xs)
    (hx : a.eval x = .slice (some ⟨w0.heap.size, 0, none⟩) 1 1) (h1 : z.oneCell' = true)
    (h63 : n + 1 ≤ maxLen) (hbytes : (n + 1) * bytes ≤ 140737488355328) (hbase : base ≤ w0.heap.size)
    (h : ∀ v' w', w'.ownsRow base e 1 v' (n + 1) (xs ++ [z]) → Below base w0 w' → wpList P ops Q rest (a.put o.dst v') w') : wpList P ops Q (o :: rest) a w := by
  subst hw
  have hb : Below w0.heap.size w0 (w0.alloc (.cells #[z] e)) := bal (bref w0) _
  have ho2 := own_below hown hb
  refine wpList_append_own _ hgd s x t ho base e i d 1 bytes ht hi hz hsize hby hzs (by decide) v n xs hs ho2 ⟨w0.heap.size, 0, none⟩ 1 1 [z] hx rfl (news1 w0 z e _ rfl) (one1 z h1) h63 hbytes (by have := hb.size; omega) fun v' w' h2 h3 _ => ?_
  refine h v' w' h2 ?_
  exact (hb.mono hbase).grown h3 (by have := hb.size; omega) (fun b hb => (ho2.lt b hb).1)

/-- A list of texts and an error number come back. -/
def GotT (q : Int × List ByteArray) (w : World) (e : Ending) (w' : World) : Prop :=
  ∃ ao c, e = .returned (.tuple #[.slice ao q.2.length c, .int .i64 q.1]) ∧ TextsAt ao q.2 w' ∧ Below w.heap.size w w'
set_option maxRecDepth 100000 in
set_option maxHeartbeats 4000000 in
theorem runpack (s : ByteArray) (hs : s.size ≤ 1000000) (w : World) :
    Calls Tryd.prog 14 #[.string s] w (GotT (unp (byt s)) w) := by
  obtain ⟨i0, hi, hz0, hz1, hz2⟩ := info_parts infoT
  have C0 := cont_start (byt s)
  obtain ⟨q, hq⟩ : ∃ q, unp (byt s) = q := ⟨_, rfl⟩
  rw [hq] at C0 ⊢
  have HC := Lib.hid C0
  have FB := Lib.hid (fun s hs hc W => rfirst_err s hs hc W)
  have FO := Lib.hid (fun s hs hc W => rfirst_ok s hs hc W)
  clear C0 hq
  go_enter Tryd.func14, Tryd.ntmps14
  go_wp2_with fail
  go_loopw [4, 5] (fun x i wr => ∃ (o : List ByteArray) (k : Nat), k ≤ s.size ∧ o.length ≤ k ∧ i = .int .i64 k ∧ wr.ownsRow w.heap.size 9 1 x o.length (txts o) ∧ Cont q o ((byt s).drop k) ∧ Below w.heap.size w wr) (fun _ i _ => s.size - (RowKit.intOf i).toNat)
  case atStart => exact ⟨[], 0, by omega, by simp, rfl, World.ownsRow_nil _ _ _ _, HC.out, bref w⟩
  case round =>
    obtain ⟨o, k, hk, hok, rfl, hO, hC, hB⟩ := hrel
    obtain ⟨n, hn⟩ : ∃ n, o.length = n := ⟨_, rfl⟩
    have HN := Lib.hid hn
    rw [hn] at hO hok
    have HO := Lib.hid hO
    have HR := Lib.hid hC
    have HB := Lib.hid hB
    have hsw := hB.size
    by_cases hlt : k < s.size
    · have hkz : (k : Int) < (s.size : Int) := by omega
      have hcut : s.extract k s.size = str ((byt s).drop k) := by rw [str_cut, ← size_list, List.take_length]; rfl
      have hcs : (s.extract k s.size).size ≤ 281474976710656 := by rw [ByteArray.size_extract]; omega
      have hne : (byt s).drop k ≠ [] := by
        intro h
        have := congrArg List.length h
        rw [List.length_drop, byt_len] at this
        simp at this; omega
      have hrl : ((byt s).drop k).length = s.size - k := by rw [List.length_drop, byt_len]
      have hdd : ∀ m, ((byt s).drop k).drop m = (byt s).drop (k + m) := fun m => by rw [List.drop_drop]
      obtain ⟨S, hS⟩ : ∃ S, s.extract k s.size = S := ⟨_, rfl⟩
      have hSb : byt S = (byt s).drop k := by rw [← hS, hcut, byt_str]
      rw [hS] at hcs
      have HS := Lib.hid hS
      obtain ⟨r, hr⟩ : ∃ r, (byt s).drop k = r := ⟨_, rfl⟩
      rw [hr] at hC hne hSb hrl hdd
      by_cases hc : cutE r = 0
      · have F0 := fun W => FO.out S hcs (by rw [hSb]; exact hc) W
        rw [hSb] at F0
        obtain ⟨m1, m2, m3⟩ := cutE_zero hc
        obtain ⟨j, hj⟩ : ∃ j, cpos r + 1 + cutN r = j := ⟨_, rfl⟩
        have hd := cont_step hC hne hc
        unfold cutR at hd
        rw [hdd, hj] at hd
        rw [hj] at F0 m3
        have hj1 : 1 ≤ j := by omega
        obtain ⟨X, hX⟩ : ∃ X, str (cutX r) = X := ⟨_, rfl⟩
        rw [hX] at hd F0
        have HF := Lib.hid F0
        have HD := Lib.hid hd
        have hks : k + j ≤ s.size := by omega
        clear F0 hd hX hj m1 m2 m3 hc hdd hr hSb hrl hne hcut hC hO hB hn
        go_wp2_with fail
        with_reducible refine (HF.out _).mono ?_
        rintro e w1 ⟨rfl, rfl⟩
        go_wp2_with (at_builtin; refine wpList_append_one (.string X) rfl rfl (.tmp 24) (.tmp 26) 22 rfl w.heap.size i0 (.string ⟨#[]⟩) 16 Tryd.underlying22 hi hz0 hz1 hz2 rfl _ _ _ rfl HO.out rfl rfl (by unfold maxLen; omega) (by omega) hsw ?_; intro v5 w5 ox gx)
        have ox2 : w5.ownsRow w.heap.size 9 1 v5 (o ++ [X]).length (txts (o ++ [X])) := by
          rw [List.length_append, HN.out]; simpa [txts] using ox
        have HO2 := Lib.hid ox2
        have HB2 := Lib.hid (HB.out.trans gx)
        clear ox gx ox2
        go_roundw
        case rel => exact ⟨o ++ [X], k + j, hks, by rw [List.length_append, HN.out]; simp; omega, by go_num, HO2.out, HD.out, HB2.out⟩
        case measure => simp [RowKit.intOf]; omega
      · have F0 := fun W => FB.out S hcs (by rw [hSb]; exact hc) W
        rw [hSb] at F0
        have hQ := cont_bad hC hne hc
        obtain ⟨E, hE⟩ : ∃ E, cutE r = E := ⟨_, rfl⟩
        rw [hE] at hQ F0 hc
        have hcb : (E != 0) = true := by rw [bne_iff_ne]; exact hc
        have HF := Lib.hid F0
        have HQ := Lib.hid hQ
        clear F0 hQ hE hdd hr hSb hrl hne hcut hC hO hB hn
        go_wp2_with fail
        with_reducible refine (HF.out _).mono ?_
        rintro e w1 ⟨rfl, rfl⟩
        go_wp2_with fail
        go_ret2
        obtain rfl := HQ.out
        exact ⟨none, 0, rfl, TextsAt.nil _ _, HB.out⟩
    · have he : k = s.size := by omega
      subst he
      have hd : (byt s).drop s.size = [] := by rw [← byt_len, List.drop_length]
      rw [hd] at hC
      have hQ := cont_end hC
      have HQ := Lib.hid hQ
      obtain ⟨_, ao, cap, rfl, hT⟩ := own_txts hO
      have HT := Lib.hid hT
      clear hd hC hQ hO hB hn hT
      go_wp2_with fail
      go_ret2
      obtain rfl := HQ.out
      exact ⟨ao, cap, by rw [HN.out]; rfl, HT.out, HB.out⟩
end Go.Proofs.YtlgplhekiemeoaaDoor
