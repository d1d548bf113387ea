/-
  Package wire's Pack and Ints.
-/
import Derived.Test.YtlgplhekiemeoaaDoorWH
import Derived.Test.YtlgplhekiemeoaaDoorWI
import Derived.Lib.AppendStr
import Derived.Lib.AppendIntMem
import Derived.Laws.BytesArg
namespace Go.Proofs.YtlgplhekiemeoaaDoor
open Go Go.RowKit Go.Lib WM

theorem infoB : (Tryd.prog.info? 5).map (fun i => (i.zero, i.size, i.bytes)) = some (some (.int .u8 0), 1, 1) := by kernel_rfl
theorem own_bytes {w : World} {base n : Nat} {v : Value} {l : List UInt8} (h : w.ownsRow base 5 1 v n (byteCells l)) :
    (convert 43 9 v).run Tryd.prog w = .ok (.string (str l)) w := by
  obtain ⟨h0, ao, cap, rfl, _, _, hnone, h2⟩ := own_cells h
  have hl : l.length = n := by simpa [byteCells] using h0
  cases ao with
  | none =>
    obtain ⟨rfl, rfl⟩ := hnone rfl
    have hz : l = [] := List.eq_nil_of_length_eq_zero hl
    subst hz
    exact run_convert_bytes_nil w 43 5 Tryd.underlying43 Tryd.underlying5 0 0 9 Tryd.underlying9
  | some a =>
    by_cases hz : n = 0
    · subst hz
      have hz : l = [] := List.eq_nil_of_length_eq_zero hl
      subst hz
      exact run_convert_bytes_back w 43 9 5 a cap [] Tryd.underlying43 Tryd.underlying5 Tryd.underlying9 (fun j hj => absurd hj (Nat.not_lt_zero _))
    · obtain ⟨g, ha, _, _⟩ := h2 0 (by omega)
      cases ha
      refine conv_bytes g 0 cap l n hl w fun j hj => ?_
      obtain ⟨g', ha', _, hc⟩ := h2 j (by simpa [byteCells] using hj)
      cases ha'
      rw [hc]
      simp [byteCells, List.getD, hj]
theorem byteCells_app (a b : List UInt8) : byteCells (a ++ b) = byteCells a ++ byteCells b := by simp [byteCells]
theorem strCells_eq (s : ByteArray) : strCells s = byteCells (byt s) := rfl

set_option maxRecDepth 100000 in
set_option maxHeartbeats 4000000 in
theorem mpack (ao : Option Addr) (l : List ByteArray) (c : Nat) (hs : sizeL l ≤ 100000) (w : World) (hT : Tb w) (h : TextsAt ao l w) :
    Calls Tryd.prog 11 #[.slice ao l.length c] w fun e w' => e = .returned (.string (str (encL l))) ∧ Below w.heap.size w w' := by
  obtain ⟨i0, hi, hz0, hz1, hz2⟩ := info_parts infoB
  have HS := Lib.hid (enc_small l hs)
  have HM := Lib.hid (sizeL_mem l)
  have HT := Lib.hid h
  have HTB := Lib.hid hT
  obtain ⟨n, hn⟩ : ∃ n, l.length = n := ⟨_, rfl⟩
  have hn1 : n ≤ 100000 := by rw [← hn]; unfold sizeL at hs; omega
  have HN := Lib.hid hn
  rw [hn]
  clear h hn hT
  go_enter Tryd.func11, Tryd.ntmps11
  go_wp2_with fail
  go_loopw [3, 8] (fun x i wr => ∃ (k N : Nat), k ≤ n ∧ N ≤ 2200000 ∧ i = .int .i64 k ∧ wr.ownsRow w.heap.size 5 1 x N (byteCells (encL (l.take k))) ∧ Below w.heap.size w wr) (fun _ i _ => n - (RowKit.intOf i).toNat)
  case atStart => exact ⟨0, 0, by omega, by omega, rfl, World.ownsRow_nil _ _ _ _, bref w⟩
  case round =>
    obtain ⟨k, N, hk, hN, rfl, hO, hB⟩ := hrel
    have HB := Lib.hid hB
    have HO := Lib.hid hO
    have hsw := hB.size
    by_cases hlt : k < n
    · obtain ⟨b, off, rfl, hb, c0⟩ := (HT.out.keep hB) k (by rw [HN.out]; exact hlt)
      have ht := take_g E0 l k (by rw [HN.out]; exact hlt)
      have hm := HM.out _ (getD_mem' E0 l k (by rw [HN.out]; exact hlt))
      obtain ⟨x, hx⟩ : ∃ x, l.getD k E0 = x := ⟨_, rfl⟩
      rw [hx] at c0 ht hm
      have hxs : x.size ≤ 100000 := by omega
      have hj := encL_snoc (l.take k) x
      rw [← ht] at hj
      have hs1 := HS.out (k + 1)
      have hkz : (k : Int) < (n : Int) := by omega
      have A0 := fun sv xs W ho hb' htab => Tryd.strconv_AppendInt_10 w.heap.size N (x.size : Int) (by omega) (by omega) sv xs W ho hb' (by omega) htab
      rw [itoa_nat] at A0
      have HA := Lib.hid A0
      have HJ := Lib.hid hj
      have HS1 := Lib.hid hs1
      have HTW := Lib.hid (show Lib.TabBelow Tryd.prog w.heap.size wr "internal/strconv.uint64pow10" .u64 Lib.pow10Tab from fun W hW => Lib.tabBelow_of_tabIs HTB.out W (HB.out.trans hW))
      clear hx ht hm hj A0 hs1 hO hB
      go_wp2_with fail
      with_reducible refine (HA.out _ _ _ HO.out hsw HTW.out).mono ?_
      rintro e w2 ⟨v2, rfl, o2, q2, _⟩
      have hD : (decDigits x.size).length ≤ 20 := by rw [decDigits_length]; exact nDigits_20 _ (by omega)
      obtain ⟨D, hDD⟩ : ∃ D, N + (decDigits x.size).length = D := ⟨_, rfl⟩
      have hD1 : D ≤ 2200020 := by omega
      rw [hDD] at o2
      have HO2 := Lib.hid o2
      have HB2 := Lib.hid (HB.out.trans q2)
      have hsw2 := q2.size
      have hsw3 : w.heap.size ≤ w2.heap.size := Nat.le_trans hsw hsw2
      have HDD := Lib.hid hDD
      clear o2 q2 hDD hD
      go_wp2_with (first
        | (at_builtin; refine wpList_append_one (.int .u8 58) rfl rfl (.tmp 16) (.tmp 17) 43 rfl w.heap.size i0 (.int .u8 0) 1 Tryd.underlying43 hi hz0 hz1 hz2 rfl _ _ _ rfl HO2.out rfl rfl (by unfold maxLen; omega) (by omega) hsw3 ?_; intro v3 w3 o3 q3; have HO3 := Lib.hid o3; have HB3 := Lib.hid (HB2.out.trans q3); have hsw4 : w.heap.size ≤ w3.heap.size := HB3.out.size; clear o3 q3)
        | (at_builtin; refine wpList_append_own_string _ rfl (.tmp 19) (.tmp 20) 43 9 rfl w.heap.size 5 i0 Tryd.underlying43 Tryd.underlying9 hi hz0 hz1 hz2 _ _ _ rfl HO3.out x rfl (by unfold maxLen; omega) (by omega) hsw4 ?_; intro v4 w4 o4 q4 _))
      have hl4 : D + 1 + x.size = (encL (l.take (k + 1))).length := by
        have h1 := o4.1
        have h2 : (byteCells (encL (l.take k)) ++ byteCells (decDigits x.size) ++ [Value.int .u8 58] ++ strCells x) = byteCells (encL (l.take (k + 1))) := by
          rw [HJ.out, strCells_eq, byteCells_app, byteCells_app]
          simp [byteCells]
        rw [h2, byteCells_length] at h1
        omega
      have o5 : w4.ownsRow w.heap.size 5 1 v4 (D + 1 + x.size) (byteCells (encL (l.take (k + 1)))) := by
        rw [HJ.out, byteCells_app, byteCells_app]
        have h2 : byteCells (58 :: byt x) = [Value.int .u8 58] ++ strCells x := rfl
        rw [h2]
        simpa using o4
      have B4 : Below w.heap.size w w4 := HB3.out.grown q4 hsw4 (fun b hb => (HO3.out.lt b hb).1)
      have HL4 := Lib.hid hl4
      have HO5 := Lib.hid o5
      have HB4 := Lib.hid B4
      clear o4 q4 hl4 o5 B4
      go_wp2_with fail
      go_roundw
      case rel => exact ⟨k + 1, D + 1 + x.size, by omega, by rw [HL4.out]; exact HS1.out, by go_num, HO5.out, HB4.out⟩
      case measure => simp [RowKit.intOf]; omega
    · have he : k = n := by omega
      subst he
      have hE : l.take k = l := List.take_of_length_le (by rw [HN.out]; exact Nat.le_refl _)
      rw [hE] at hO
      have hcv := own_bytes hO
      clear hE hO hB
      go_wp2_with fail
      go_ret
      exact ⟨rfl, HB.out⟩

set_option maxRecDepth 100000 in
set_option maxHeartbeats 4000000 in
theorem mints (ao : Option Addr) (l : List Int) (c : Nat) (hl : l.length ≤ 4000) (hs : ∀ n ∈ l, I64 n) (w : World) (hT : Tb w) (h : IntsAt ao l w) :
    Calls Tryd.prog 22 #[.slice ao l.length c] w fun e w' => e = .returned (.string (str (encI l))) ∧ Below w.heap.size w w' := by
  obtain ⟨i0, hi, hz0, hz1, hz2⟩ := info_parts infoT
  have h0 := sizeL_dec l hs
  have HS : Hid (sizeL (l.map decT) ≤ 100000) := Lib.hid (by omega)
  have HM := Lib.hid hs
  have HT := Lib.hid h
  have HTB := Lib.hid hT
  obtain ⟨n, hn⟩ : ∃ n, l.length = n := ⟨_, rfl⟩
  rw [hn] at hl
  have HN := Lib.hid hn
  rw [hn]
  clear h hn h0 hs hT
  go_enter Tryd.func22, Tryd.ntmps22
  go_wp2_with fail
  go_loopw [3, 8] (fun x i wr => ∃ (k : Nat), k ≤ n ∧ i = .int .i64 k ∧ wr.ownsRow w.heap.size 9 1 x k (txts ((l.take k).map decT)) ∧ Below w.heap.size w wr) (fun _ i _ => n - (RowKit.intOf i).toNat)
  case atStart => exact ⟨0, by omega, rfl, World.ownsRow_nil _ _ _ _, bref w⟩
  case round =>
    obtain ⟨k, hk, rfl, hO, hB⟩ := hrel
    have HB := Lib.hid hB
    have HO := Lib.hid hO
    have hsw := hB.size
    by_cases hlt : k < n
    · obtain ⟨b, off, rfl, hb, c0⟩ := (HT.out.keep hB) k (by rw [HN.out]; exact hlt)
      have ht := take_g 0 l k (by rw [HN.out]; exact hlt)
      have hm := HM.out _ (getD_mem' 0 l k (by rw [HN.out]; exact hlt))
      obtain ⟨v, hv⟩ : ∃ v, l.getD k 0 = v := ⟨_, rfl⟩
      rw [hv] at c0 ht hm
      have hkz : (k : Int) < (n : Int) := by omega
      have R1 := fun W hT => mint v hm W hT
      have e1 : str (itoa v) = decT v := rfl
      rw [e1] at R1
      have hX : txts ((l.take (k + 1)).map decT) = txts ((l.take k).map decT) ++ [.string (decT v)] := by rw [ht, List.map_append]; simp [txts]
      obtain ⟨X, hXX⟩ : ∃ X, decT v = X := ⟨_, rfl⟩
      rw [hXX] at R1 hX
      have HX := Lib.hid hX
      have HR := Lib.hid R1
      have HTW := Lib.hid (HTB.out.keep hB)
      clear hv ht hm R1 e1 hX hXX hO hB
      go_wp2_with fail
      with_reducible refine (HR.out _ HTW.out).mono ?_
      rintro e w2 ⟨rfl, q2⟩
      have HO2 := Lib.hid (own_below HO.out q2)
      have HB2 := Lib.hid (btr HB.out q2)
      have hsw2 := Nat.le_trans hsw q2.size
      clear q2
      go_wp2_with (at_builtin; refine wpList_append_one (.string X) rfl rfl (.tmp 12) (.tmp 15) 22 rfl w.heap.size i0 (.string ⟨#[]⟩) 16 Tryd.underlying22 hi hz0 hz1 hz2 rfl _ _ _ rfl HO2.out rfl rfl (by unfold maxLen; omega) (by omega) hsw2 ?_; intro v5 w5 ox gx)
      have ox2 : w5.ownsRow w.heap.size 9 1 v5 (k + 1) (txts ((l.take (k + 1)).map decT)) := by rw [HX.out]; exact ox
      have HO3 := Lib.hid ox2
      have HB3 := Lib.hid (HB2.out.trans gx)
      clear ox gx ox2
      go_wp2_with fail
      go_roundw
      case rel => exact ⟨k + 1, by omega, by go_num, HO3.out, HB3.out⟩
      case measure => simp [RowKit.intOf]; omega
    · have he : k = n := by omega
      subst he
      have hE : l.take k = l := List.take_of_length_le (by rw [HN.out]; exact Nat.le_refl _)
      rw [hE] at hO
      obtain ⟨hl2, ao2, cap, rfl, hT2⟩ := own_txts hO
      have P0 := mpack ao2 (l.map decT) cap HS.out _ (HTB.out.keep hB) hT2
      rw [hl2] at P0
      have HP := Lib.hid P0
      clear hE hO hB hT2 hl2 P0
      go_wp2_with fail
      with_reducible refine HP.out.mono ?_
      rintro e w2 ⟨rfl, q2⟩
      have HQ2 := Lib.hid q2
      clear q2
      go_wp2_with fail
      go_ret
      exact ⟨rfl, btr HB.out HQ2.out⟩
end Go.Proofs.YtlgplhekiemeoaaDoor
