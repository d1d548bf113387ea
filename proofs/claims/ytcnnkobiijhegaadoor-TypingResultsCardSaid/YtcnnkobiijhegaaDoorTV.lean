/-
  Tokens: contracts of the document's own digit, plain, form.
-/
import Derived.Test.YtcnnkobiijhegaaDoorTZ
namespace Go.Proofs.YtcnnkobiijhegaaDoor
open Go Go.RowKit Go.Lib WM TM

theorem byt_get (s : ByteArray) (k : Nat) (h : k < s.size) : s[k] = (byt s)[k]'(by rw [byt_len]; exact h) := rfl
theorem pln_le (l : List UInt8) : pln l ≤ l.length := by
  unfold pln
  split
  · omega
  · exact sp_le _ _
theorem head_at {s : ByteArray} (h : 0 < s.size) : (byt s).head? = some s[0] := by
  rw [byt_get s 0 h]
  have key : ∀ (l : List UInt8) (hl : 0 < l.length), l.head? = some l[0] := by
    intro l hl
    cases l with
    | nil => exact absurd hl (by decide)
    | cons c t => simp
  exact key (byt s) (by rw [byt_len]; exact h)
theorem u8_int (c : UInt8) (n : Nat) (hn : n < 256) : ((c.toNat : Int) = (n : Int)) ↔ c = UInt8.ofNat n := by
  constructor
  · intro h
    have h1 : c.toNat = n := by omega
    rw [← h1, UInt8.ofNat_toNat]
  · intro h
    rw [h, UInt8.toNat_ofNat', Nat.mod_eq_of_lt hn]

theorem fm_nil : fm [] = true := rfl
theorem fm_parts {m : List UInt8} (h : m ≠ []) : fm m = (decide (2 ≤ m.length) && (decide (m.length ≤ 5) && (m.head? == some 46 && (m.getLast? != some 48 && m.tail.all dig)))) := by
  unfold fm
  cases m with
  | nil => exact absurd rfl h
  | cons c t => rfl
theorem last_at {s : ByteArray} (h : 0 < s.size) : (byt s).getLast? = some (s[s.size - 1]'(by omega)) := by
  rw [List.getLast?_eq_getElem?, List.getElem?_eq_getElem (by rw [byt_len]; omega)]
  congr 1
end Go.Proofs.YtcnnkobiijhegaaDoor
