/-
  The document's Names.
-/
import Derived.Test.YthanoilbcdhbkaaGreatDoorQGQ
namespace Go.Proofs.YthanoilbcdhbkaaGreatDoor
open Go Go.RowKit Go.Lib Go.Shelf WM TM EM

def OutI (out M : List Tx) : Prop := out.Pairwise (· < ·) ∧ ∀ s, s ∈ out ↔ s ∈ M
theorem OutI.len {out M : List Tx} (h : OutI out M) : out.length ≤ M.length := by
  have e : out = normT M := asc_ext h.1 (norm_pwT M) (fun s => (h.2 s).trans (norm_memT M s).symm)
  rw [e]; exact norm_lenT M
theorem OutI.ins {out M r : List Tx} {s : Tx} (h : OutI out M) (hi : InsR out s r) : OutI r (M ++ [s]) := by
  refine ⟨hi.asc h.1, fun x => ?_⟩
  rw [hi.mem, h.2, List.mem_append, List.mem_singleton]
  exact ⟨fun h => h.symm, fun h => h.symm⟩
theorem OutI.to {out M M' : List Tx} (h : OutI out M) (hm : ∀ s, s ∈ M ↔ s ∈ M') : OutI out M' := ⟨h.1, fun s => (h.2 s).trans (hm s)⟩
def ownN (o : Int) (s : Tx) : List Tx := if o = 4 then [s] else []
def Mi (o : Int) (s : Tx) (l : List Ex) (k : Nat) : List Tx := ownN o s ++ nmL (pres (l.take k))
theorem own_len (o : Int) (s : Tx) : (ownN o s).length ≤ 1 := by unfold ownN; split <;> simp
theorem Mi_len (o : Int) (s : Tx) (l : List Ex) (k : Nat) : (Mi o s l k).length ≤ 1 + sizs l := by
  unfold Mi
  rw [List.length_append]
  have h1 := own_len o s
  have h2 := nmL_len (pres (l.take k))
  have h3 : (pres (l.take k)).length = sizs (l.take k) := rfl
  have h4 := sizs_take_le l k
  omega
theorem Mi_next (o : Int) (s : Tx) (l : List Ex) (k : Nat) (hk : k < l.length) {ls : List Tx} (h : NmS (l.getD k E0) ls) (x : Tx) : x ∈ Mi o s l k ++ ls ↔ x ∈ Mi o s l (k + 1) := by
  have e : l.take (k + 1) = l.take k ++ [l.getD k E0] := by rw [List.take_succ_eq_append_getElem hk]; simp [List.getD, hk]
  unfold Mi
  rw [e, pres_app, nmL_app]
  have e2 : pres [l.getD k E0] = EM.pre (l.getD k E0) := by simp [pres]
  rw [e2]
  simp only [List.mem_append]
  rw [h.2]
  exact or_assoc
theorem Mi_all (e : Ex) (x : Tx) : x ∈ Mi e.op e.s e.args e.args.length ↔ x ∈ nmL (EM.pre e) := by
  obtain ⟨o, n, s, a⟩ := e
  unfold Mi ownN
  simp only [Ex.op, Ex.s, Ex.args, List.take_length]
  have : nmL (EM.pre (.mk o n s a)) = (if o = 4 then [s] else []) ++ nmL (pres a) := by
    simp only [EM.pre, nmL, List.filter_cons]
    by_cases h : o = 4
    · simp [h, Ex.op, Ex.s]
    · simp [h, Ex.op]
  rw [this]
  exact Iff.rfl
theorem take_snoc (l : List Tx) (k : Nat) (h : k < l.length) : l.take (k + 1) = l.take k ++ [l.getD k []] := by
  rw [List.take_succ_eq_append_getElem h]; simp [List.getD, h]
set_option maxRecDepth 100000 in
set_option maxHeartbeats 4000000 in
theorem rnames : ∀ (e : Ex) (so : Option Addr) (cap : Nat) (w : World), siz e ≤ 100000 → ExprsAt so e.args w →
    Calls Tryz.prog 70 #[.agg #[.int .i64 e.op, .int .i64 e.n, .string (str e.s), .slice so e.args.length cap]] w fun r w' => ∃ l ao c, r = .returned (.slice ao l.length c) ∧ NmS e l ∧ l.length ≤ siz e ∧ TxL ao c l w' ∧ Below w.heap.size w w' := by
  refine ex_ind _ fun e ih so cap w hm h => ?_
  obtain ⟨i0, hi, hz0, hz1, hz2⟩ := info_parts infoStr
  have HT := Lib.hid h
  obtain ⟨l, hl⟩ : ∃ l, e.args = l := ⟨_, rfl⟩
  obtain ⟨o, ho⟩ : ∃ o, e.op = o := ⟨_, rfl⟩
  obtain ⟨s, hs⟩ : ∃ s, e.s = s := ⟨_, rfl⟩
  obtain ⟨n, hn⟩ : ∃ n, l.length = n := ⟨_, rfl⟩
  have HA : Hid (e.op = o ∧ e.s = s ∧ e.args = l) := Lib.hid ⟨ho, hs, hl⟩
  have HR : Hid (1 + sizs l ≤ 100000) := Lib.hid (by rw [← hl, Nat.add_comm, ← siz_eq]; exact hm)
  rw [hl] at ih
  rw [hl] at HT h ⊢
  have IH := Lib.hid ih
  have HN := Lib.hid hn
  rw [hn, ho, hs]
  clear h ih hn hl hm ho hs
  by_cases h4 : o = 4
  · have h4' : (o == 4) = true := by rw [beq_iff_eq]; exact h4
    have hown : Hid (ownN o s = [s]) := Lib.hid (by unfold ownN; rw [if_pos h4])
    clear h4
    go_enter Tryz.func70, Tryz.ntmps70
    have hb0 := bal (bref w) (.cells #[.int .i64 o, .int .i64 e.n, .string (str s), .slice so n cap] 24)
    have hs0 : w.heap.size ≤ ((w.alloc (.cells #[.int .i64 o, .int .i64 e.n, .string (str s), .slice so n cap] 24)).alloc (.cells #[.string (str s)] 9)).heap.size := by simp; omega
    go_wp2_with (first
      | (at_builtin; refine wpList_append_own_any rfl (.tmp 10) (.tmp 13) 71 rfl w.heap.size 9 i0 (.string ⟨#[]⟩) 1 16 Tryz.underlying71 hi hz0 hz1 hz2 rfl (by decide) (.slice none 0 0) 0 (tvs []) rfl (World.ownsRow_nil _ _ _ _) (some ⟨w.heap.size + 1, 0, none⟩) 1 1 (tvs [s]) rfl rfl (fun h => by cases h) (fun ad had j u hu => by cases had; match j, hu with | 0, hu => simp [tvs] at hu; subst hu; simp [go_sem, Addr.add]) (one_tvs _) (by unfold maxLen; omega) (by omega) hs0 ?_; intro v2 w2 ox gx; have HB2 := Lib.hid ((btr hb0 (bal (bref _) _)).grown gx hs0 (fun b hb => by cases hb)); have HG2 := Lib.hid gx; have HO2 := Lib.hid ox; clear ox gx))
    have HO5 := HO2.out
    rw [show tvs [] ++ tvs [s] = tvs [s] by simp [tvs]] at HO5
    obtain ⟨hlen, bo, d, rfl, hT⟩ := own_shapeT HO5
    have HT2 := Lib.hid hT
    have hc3 : w2.cell? ⟨w.heap.size, 3, none⟩ = some (.slice so n cap) := by
      have hbk := HG2.out.block w.heap.size (by simp; omega) (fun e => by cases e)
      rw [World.cell?_of_block (a := ⟨w.heap.size, 3, none⟩) hbk]
      simp [go_sem]
    clear HO5 HO2 hT hlen
    go_loopw [3, 4] (fun x i wr => ∃ (k : Nat) (out : List Tx) (ao : Option Addr) (c : Nat), k ≤ n ∧ x = .slice ao out.length c ∧ i = .int .i64 k ∧ TxL ao c out wr ∧ OutI out (Mi o s l k) ∧ wr.cell? ⟨w.heap.size, 3, none⟩ = some (.slice so n cap) ∧ Below w.heap.size w wr) (fun _ i _ => n - (RowKit.intOf i).toNat)
    case atStart => exact ⟨0, [s], bo, d, by omega, rfl, rfl, HT2.out, ⟨List.pairwise_singleton _ _, fun x => by unfold Mi; rw [hown.out]; simp [pres, nmL]⟩, hc3, HB2.out⟩
    case round =>
      obtain ⟨k, out, ao, c, hk, rfl, rfl, hT, hO, hc, hB⟩ := hrel
      have HTx := Lib.hid hT
      have HO := Lib.hid hO
      have HB := Lib.hid hB
      clear hT hO hB
      have hnb : n ≤ 100000 := by have h1 := sizs_len l; have h2 := HR.out; have h3 := HN.out; omega
      by_cases hlt : k < n
      · have hkz : (k : Int) < (n : Int) := by omega
        obtain ⟨b, off, so2, cap2, rfl, hb, c0, c1, c2, c3, hs, _⟩ := (HT.out.keep HB.out).at k (by rw [HN.out]; exact hlt)
        have hsz := siz_mem (getD_mem'' E0 l k (by rw [HN.out]; exact hlt))
        have C0 := Lib.hid (fun W (hW : Below wr.heap.size wr W) => IH.out (l.getD k E0) (getD_mem'' _ _ _ (by rw [HN.out]; exact hlt)) so2 cap2 W (by have := HR.out; omega) (hs.keep hW))
        obtain ⟨x, hx⟩ : ∃ x, l.getD k E0 = x := ⟨_, rfl⟩
        have HX := Lib.hid hx
        rw [hx] at c0 c1 c2 c3 hsz
        rw [hx] at C0
        have HSX := Lib.hid hsz
        clear hs hx hsz
        go_wp2_with fail
        refine (C0.out _ (bref _)).mono ?_
        rintro r w1 ⟨ls, lo, lc, rfl, hNm, hll, hL1, hb1⟩
        have HNm := Lib.hid hNm
        have HL1 := Lib.hid hL1
        have HT1 := Lib.hid (HTx.out.keep hb1)
        have HB1 := Lib.hid (btr HB.out hb1)
        have hc1 := keepc hb1 hc
        have HLL := Lib.hid (Nat.le_trans hll HSX.out)
        obtain ⟨z, hz⟩ : ∃ z, ls.length = z := ⟨_, rfl⟩
        have HZ := Lib.hid hz
        rw [hz]
        have hzb : z ≤ 100000 := by have h1 := HLL.out; have h2 := HR.out; have h3 := HZ.out; omega
        clear hNm hL1 hb1 hll hz c0 c1 c2 c3 hc C0
        go_wp2_with fail
        obtain ⟨wr0, hwr0⟩ : ∃ q, q = wr := ⟨_, rfl⟩
        subst hwr0
        go_loopw [3, 6] (fun x i wq => ∃ (j : Nat) (out : List Tx) (ao : Option Addr) (c : Nat), j ≤ z ∧ x = .slice ao out.length c ∧ i = .int .i64 j ∧ TxL ao c out wq ∧ OutI out (Mi o s l k ++ ls.take j) ∧ wq.cell? ⟨w.heap.size, 3, none⟩ = some (.slice (some ⟨b, off, none⟩) n cap) ∧ Below w.heap.size w wq ∧ Below w1.heap.size w1 wq) (fun _ i _ => z - (RowKit.intOf i).toNat)
        case atStart => exact ⟨0, out, ao, c, by omega, rfl, rfl, HT1.out, by simpa using HO.out, hc1, HB1.out, bref _⟩
        case round =>
          obtain ⟨j, out2, ao2, c2, hj, rfl, rfl, hT2, hO2, hc2, hB2, hB3⟩ := hrel
          have HT2 := Lib.hid hT2
          have HO2 := Lib.hid hO2
          have HB2 := Lib.hid hB2
          have HB3 := Lib.hid hB3
          clear hT2 hO2 hB2 hB3
          by_cases hjl : j < z
          · have hjz : (j : Int) < (z : Int) := by omega
            have hj0 : ¬ ((j : Int) < 0) := by omega
            obtain ⟨bb, fo, rfl, _, d0⟩ := (HL1.out.keep HB3.out).1 j (by rw [HZ.out]; exact hjl)
            have hol : out2.length ≤ 1000000 := by
              have h1 := HO2.out.len
              rw [List.length_append, List.length_take] at h1
              have h2 := Mi_len o s l k
              have h3 := HLL.out
              have h4 := HR.out
              have h5 := HZ.out
              have h6 : min j ls.length ≤ ls.length := Nat.min_le_right _ _
              omega
            have IN := Lib.hid (fun W (hW : Below wr.heap.size wr W) => rinsert ao2 c2 out2 (ls.getD j []) W hol (HT2.out.keep hW))
            have hts := take_snoc ls j (by rw [HZ.out]; exact hjl)
            obtain ⟨t, ht⟩ : ∃ t, ls.getD j [] = t := ⟨_, rfl⟩
            rw [ht] at d0 hts
            rw [ht] at IN
            have HTS := Lib.hid hts
            clear ht hts hol
            go_wp2_with fail
            refine (IN.out _ (bref _)).mono ?_
            rintro r w2 ⟨bo, d, m, rfl, hI, hT3, hb2⟩
            have HI := Lib.hid hI
            have HT3 := Lib.hid hT3
            have HBa := Lib.hid (btr HB2.out hb2)
            have HBb := Lib.hid (btr HB3.out hb2)
            have hc3 := keepc hb2 hc2
            clear hI hT3 hb2 d0 IN
            go_wp2_with fail
            go_roundw
            case rel => exact ⟨j + 1, m, bo, d, by omega, rfl, by go_num, HT3.out, by rw [HTS.out, ← List.append_assoc]; exact HO2.out.ins HI.out, hc3, HBa.out, HBb.out⟩
            case measure => simp [RowKit.intOf]; omega
          · have he : j = z := by omega
            have HE : Hid (OutI out2 (Mi o s l (k + 1))) := Lib.hid (by
              have h := HO2.out
              rw [List.take_of_length_le (by rw [HZ.out]; omega)] at h
              exact h.to (Mi_next o s l k (by rw [HN.out]; exact hlt) (by rw [HX.out]; exact HNm.out)))
            have hjz : ¬ ((j : Int) < (z : Int)) := by omega
            clear he
            go_wp2_with fail
            go_roundw
            case rel => first | exact ⟨k + 1, by omega, out2, ao2, c2, ⟨rfl, rfl, rfl⟩, by go_num, HT2.out, HE.out, HB2.out⟩ | exact ⟨k + 1, out2, ao2, c2, by omega, rfl, rfl, HT2.out, HE.out, hc2, HB2.out⟩ | exact ⟨k + 1, out2, ao2, c2, by omega, rfl, by go_num, HT2.out, HE.out, hc2, HB2.out⟩
            case measure => simp [RowKit.intOf]; omega
      · have he : k = n := by omega
        subst he
        have HF : Hid (OutI out (nmL (EM.pre e))) := Lib.hid (by
          have h := HO.out
          have h2 := HN.out
          have h3 := HA.out
          rw [← h3.1, ← h3.2.1, ← h3.2.2, ← h2, ← h3.2.2] at h
          exact h.to (Mi_all e))
        go_wp2_with fail
        go_ret
        exact ⟨out, ao, c, rfl, ⟨HF.out.1, HF.out.2⟩, by have h1 := HF.out.len; have h2 := nmL_len (EM.pre e); exact Nat.le_trans h1 h2, HTx.out, HB.out⟩
  · have h4' : (o == 4) = false := by rw [beq_eq_false_iff_ne]; exact h4
    have hown : Hid (ownN o s = []) := Lib.hid (by unfold ownN; rw [if_neg h4])
    clear h4
    go_enter Tryz.func70, Tryz.ntmps70
    go_wp2_with fail
    go_loopw [3, 4] (fun x i wr => ∃ (k : Nat) (out : List Tx) (ao : Option Addr) (c : Nat), k ≤ n ∧ x = .slice ao out.length c ∧ i = .int .i64 k ∧ TxL ao c out wr ∧ OutI out (Mi o s l k) ∧ wr.cell? ⟨w.heap.size, 3, none⟩ = some (.slice so n cap) ∧ Below w.heap.size w wr) (fun _ i _ => n - (RowKit.intOf i).toNat)
    case atStart => exact ⟨0, [], none, 0, by omega, rfl, rfl, ⟨TxAt.nil _ _, fun _ => ⟨rfl, rfl⟩, Nat.le_refl _⟩, ⟨List.Pairwise.nil, fun x => by unfold Mi; rw [hown.out]; simp [pres, nmL]⟩, by simp [go_sem], by (repeat (first | exact bref _ | refine bdr ?_ | refine bal ?_ _))⟩
    case round =>
      obtain ⟨k, out, ao, c, hk, rfl, rfl, hT, hO, hc, hB⟩ := hrel
      have HTx := Lib.hid hT
      have HO := Lib.hid hO
      have HB := Lib.hid hB
      clear hT hO hB
      have hnb : n ≤ 100000 := by have h1 := sizs_len l; have h2 := HR.out; have h3 := HN.out; omega
      by_cases hlt : k < n
      · have hkz : (k : Int) < (n : Int) := by omega
        obtain ⟨b, off, so2, cap2, rfl, hb, c0, c1, c2, c3, hs, _⟩ := (HT.out.keep HB.out).at k (by rw [HN.out]; exact hlt)
        have hsz := siz_mem (getD_mem'' E0 l k (by rw [HN.out]; exact hlt))
        have C0 := Lib.hid (fun W (hW : Below wr.heap.size wr W) => IH.out (l.getD k E0) (getD_mem'' _ _ _ (by rw [HN.out]; exact hlt)) so2 cap2 W (by have := HR.out; omega) (hs.keep hW))
        obtain ⟨x, hx⟩ : ∃ x, l.getD k E0 = x := ⟨_, rfl⟩
        have HX := Lib.hid hx
        rw [hx] at c0 c1 c2 c3 hsz
        rw [hx] at C0
        have HSX := Lib.hid hsz
        clear hs hx hsz
        go_wp2_with fail
        refine (C0.out _ (bref _)).mono ?_
        rintro r w1 ⟨ls, lo, lc, rfl, hNm, hll, hL1, hb1⟩
        have HNm := Lib.hid hNm
        have HL1 := Lib.hid hL1
        have HT1 := Lib.hid (HTx.out.keep hb1)
        have HB1 := Lib.hid (btr HB.out hb1)
        have hc1 := keepc hb1 hc
        have HLL := Lib.hid (Nat.le_trans hll HSX.out)
        obtain ⟨z, hz⟩ : ∃ z, ls.length = z := ⟨_, rfl⟩
        have HZ := Lib.hid hz
        rw [hz]
        have hzb : z ≤ 100000 := by have h1 := HLL.out; have h2 := HR.out; have h3 := HZ.out; omega
        clear hNm hL1 hb1 hll hz c0 c1 c2 c3 hc C0
        go_wp2_with fail
        obtain ⟨wr0, hwr0⟩ : ∃ q, q = wr := ⟨_, rfl⟩
        subst hwr0
        go_loopw [3, 6] (fun x i wq => ∃ (j : Nat) (out : List Tx) (ao : Option Addr) (c : Nat), j ≤ z ∧ x = .slice ao out.length c ∧ i = .int .i64 j ∧ TxL ao c out wq ∧ OutI out (Mi o s l k ++ ls.take j) ∧ wq.cell? ⟨w.heap.size, 3, none⟩ = some (.slice (some ⟨b, off, none⟩) n cap) ∧ Below w.heap.size w wq ∧ Below w1.heap.size w1 wq) (fun _ i _ => z - (RowKit.intOf i).toNat)
        case atStart => exact ⟨0, out, ao, c, by omega, rfl, rfl, HT1.out, by simpa using HO.out, hc1, HB1.out, bref _⟩
        case round =>
          obtain ⟨j, out2, ao2, c2, hj, rfl, rfl, hT2, hO2, hc2, hB2, hB3⟩ := hrel
          have HT2 := Lib.hid hT2
          have HO2 := Lib.hid hO2
          have HB2 := Lib.hid hB2
          have HB3 := Lib.hid hB3
          clear hT2 hO2 hB2 hB3
          by_cases hjl : j < z
          · have hjz : (j : Int) < (z : Int) := by omega
            have hj0 : ¬ ((j : Int) < 0) := by omega
            obtain ⟨bb, fo, rfl, _, d0⟩ := (HL1.out.keep HB3.out).1 j (by rw [HZ.out]; exact hjl)
            have hol : out2.length ≤ 1000000 := by
              have h1 := HO2.out.len
              rw [List.length_append, List.length_take] at h1
              have h2 := Mi_len o s l k
              have h3 := HLL.out
              have h4 := HR.out
              have h5 := HZ.out
              have h6 : min j ls.length ≤ ls.length := Nat.min_le_right _ _
              omega
            have IN := Lib.hid (fun W (hW : Below wr.heap.size wr W) => rinsert ao2 c2 out2 (ls.getD j []) W hol (HT2.out.keep hW))
            have hts := take_snoc ls j (by rw [HZ.out]; exact hjl)
            obtain ⟨t, ht⟩ : ∃ t, ls.getD j [] = t := ⟨_, rfl⟩
            rw [ht] at d0 hts
            rw [ht] at IN
            have HTS := Lib.hid hts
            clear ht hts hol
            go_wp2_with fail
            refine (IN.out _ (bref _)).mono ?_
            rintro r w2 ⟨bo, d, m, rfl, hI, hT3, hb2⟩
            have HI := Lib.hid hI
            have HT3 := Lib.hid hT3
            have HBa := Lib.hid (btr HB2.out hb2)
            have HBb := Lib.hid (btr HB3.out hb2)
            have hc3 := keepc hb2 hc2
            clear hI hT3 hb2 d0 IN
            go_wp2_with fail
            go_roundw
            case rel => exact ⟨j + 1, m, bo, d, by omega, rfl, by go_num, HT3.out, by rw [HTS.out, ← List.append_assoc]; exact HO2.out.ins HI.out, hc3, HBa.out, HBb.out⟩
            case measure => simp [RowKit.intOf]; omega
          · have he : j = z := by omega
            have HE : Hid (OutI out2 (Mi o s l (k + 1))) := Lib.hid (by
              have h := HO2.out
              rw [List.take_of_length_le (by rw [HZ.out]; omega)] at h
              exact h.to (Mi_next o s l k (by rw [HN.out]; exact hlt) (by rw [HX.out]; exact HNm.out)))
            have hjz : ¬ ((j : Int) < (z : Int)) := by omega
            clear he
            go_wp2_with fail
            go_roundw
            case rel => first | exact ⟨k + 1, by omega, out2, ao2, c2, ⟨rfl, rfl, rfl⟩, by go_num, HT2.out, HE.out, HB2.out⟩ | exact ⟨k + 1, out2, ao2, c2, by omega, rfl, rfl, HT2.out, HE.out, hc2, HB2.out⟩ | exact ⟨k + 1, out2, ao2, c2, by omega, rfl, by go_num, HT2.out, HE.out, hc2, HB2.out⟩
            case measure => simp [RowKit.intOf]; omega
      · have he : k = n := by omega
        subst he
        have HF : Hid (OutI out (nmL (EM.pre e))) := Lib.hid (by
          have h := HO.out
          have h2 := HN.out
          have h3 := HA.out
          rw [← h3.1, ← h3.2.1, ← h3.2.2, ← h2, ← h3.2.2] at h
          exact h.to (Mi_all e))
        go_wp2_with fail
        go_ret
        exact ⟨out, ao, c, rfl, ⟨HF.out.1, HF.out.2⟩, by have h1 := HF.out.len; have h2 := nmL_len (EM.pre e); exact Nat.le_trans h1 h2, HTx.out, HB.out⟩
end Go.Proofs.YthanoilbcdhbkaaGreatDoor
