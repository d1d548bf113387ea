/-
  The chapter's examples: plain, and the law's live.
-/
import Derived.Test.YtamnpgcfgjlbeaaGI
namespace Go.Proofs.Ytamnpgcfgjlbeaa
open Go Go.RowKit Go.Lib GM

theorem ex_mod : mE (byt ⟨#[90, 90]⟩) = 0 ∧ mV (byt ⟨#[90, 90]⟩) = 43 := by decide +kernel
theorem ex_bad : mE (byt ⟨#[97]⟩) = 2 ∧ mV (byt ⟨#[97]⟩) = 0 := by decide +kernel
theorem ex_seal : sealE (byt ⟨#[67, 66, 48, 48, 48, 48, 49, 48, 48, 48]⟩) = 0 ∧ sealV (byt ⟨#[67, 66, 48, 48, 48, 48, 49, 48, 48, 48]⟩) = [67, 66, 48, 48, 48, 48, 49, 48, 48, 48, 51, 51] := by decide +kernel
theorem ex_un : unE (byt ⟨#[97, 102, 54, 51, 100, 99, 52, 99, 56, 54, 48, 49, 101, 99, 56, 99]⟩) = 0 ∧ unV (byt ⟨#[97, 102, 54, 51, 100, 99, 52, 99, 56, 54, 48, 49, 101, 99, 56, 99]⟩) = 12638187200555641996 := by decide +kernel
theorem ex_hash : hashN (byt ⟨#[]⟩) = 14695981039346656037 ∧ hashN (byt ⟨#[97]⟩) = 12638187200555641996 := by decide +kernel
theorem ex_sealed : sealedB (byt ⟨#[67, 66, 48, 48, 48, 48, 49, 48, 48, 48, 51, 51]⟩) = true ∧ sealedB (byt ⟨#[67, 66, 48, 48, 48, 48, 49, 48, 48, 48, 51, 52]⟩) = false := by decide +kernel

set_option maxRecDepth 100000 in
set_option maxHeartbeats 4000000 in
theorem live_any (w : World) :
    Calls Try.prog 9 #[] w fun e w' => e = .returned (.bool true) ∧ Below w.heap.size w w' := by
  have C1 : Hid (∀ W, Calls Try.prog 21 #[.string ⟨#[90, 90]⟩] W fun e w' => e = .returned (.tuple #[.int .i64 43, .int .i64 0]) ∧ W = w') := Lib.hid (fun W => by have := mmod ⟨#[90, 90]⟩ W; rwa [ex_mod.1, ex_mod.2] at this)
  have C2 : Hid (∀ W, Calls Try.prog 21 #[.string ⟨#[97]⟩] W fun e w' => e = .returned (.tuple #[.int .i64 0, .int .i64 2]) ∧ W = w') := Lib.hid (fun W => by have := mmod ⟨#[97]⟩ W; rwa [ex_bad.1, ex_bad.2] at this)
  have C3 : Hid (∀ W, Calls Try.prog 23 #[.string ⟨#[67, 66, 48, 48, 48, 48, 49, 48, 48, 48]⟩] W fun e w' => e = .returned (.tuple #[.string ⟨#[67, 66, 48, 48, 48, 48, 49, 48, 48, 48, 51, 51]⟩, .int .i64 0]) ∧ Below W.heap.size W w') := Lib.hid (fun W => by have := mseal ⟨#[67, 66, 48, 48, 48, 48, 49, 48, 48, 48]⟩ W; rwa [ex_seal.1, ex_seal.2] at this)
  have C4 : Hid (∀ W, Calls Try.prog 17 #[.string ⟨#[97, 102, 54, 51, 100, 99, 52, 99, 56, 54, 48, 49, 101, 99, 56, 99]⟩] W fun e w' => e = .returned (.tuple #[.int .u64 12638187200555641996, .int .i64 0]) ∧ W = w') := Lib.hid (fun W => by have := munhex ⟨#[97, 102, 54, 51, 100, 99, 52, 99, 56, 54, 48, 49, 101, 99, 56, 99]⟩ W; rwa [ex_un.1, ex_un.2] at this)
  have C5 : Hid (∀ W, Calls Try.prog 10 #[.string ⟨#[]⟩] W fun e w' => e = .returned (.int .u64 14695981039346656037) ∧ W = w') := Lib.hid (fun W => by have := mhash ⟨#[]⟩ (by decide) W; rwa [ex_hash.1] at this)
  have C6 : Hid (∀ W, Calls Try.prog 10 #[.string ⟨#[97]⟩] W fun e w' => e = .returned (.int .u64 12638187200555641996) ∧ W = w') := Lib.hid (fun W => by have := mhash ⟨#[97]⟩ (by decide) W; rwa [ex_hash.2] at this)
  have C7 : Hid (∀ W, Calls Try.prog 25 #[.string ⟨#[67, 66, 48, 48, 48, 48, 49, 48, 48, 48, 51, 51]⟩] W fun e w' => e = .returned (.bool true) ∧ W = w') := Lib.hid (fun W => by have := msealed ⟨#[67, 66, 48, 48, 48, 48, 49, 48, 48, 48, 51, 51]⟩ W; rwa [ex_sealed.1] at this)
  have C8 : Hid (∀ W, Calls Try.prog 25 #[.string ⟨#[67, 66, 48, 48, 48, 48, 49, 48, 48, 48, 51, 52]⟩] W fun e w' => e = .returned (.bool false) ∧ W = w') := Lib.hid (fun W => by have := msealed ⟨#[67, 66, 48, 48, 48, 48, 49, 48, 48, 48, 51, 52]⟩ W; rwa [ex_sealed.2] at this)
  go_enter Try.func9, Try.ntmps9
  go_wp2_with fail
  refine (C1.out _).mono ?_
  rintro e w1 ⟨rfl, rfl⟩
  go_wp2_with fail
  refine (C3.out _).mono ?_
  rintro e w1 ⟨rfl, q1⟩
  have HQ := Lib.hid q1
  clear q1
  go_wp2_with fail
  refine (C2.out _).mono ?_
  rintro e w2 ⟨rfl, rfl⟩
  go_wp2_with fail
  refine (C4.out _).mono ?_
  rintro e w2 ⟨rfl, rfl⟩
  go_wp2_with fail
  refine (C5.out _).mono ?_
  rintro e w2 ⟨rfl, rfl⟩
  go_wp2_with fail
  refine (C6.out _).mono ?_
  rintro e w2 ⟨rfl, rfl⟩
  go_wp2_with fail
  refine (C7.out _).mono ?_
  rintro e w2 ⟨rfl, rfl⟩
  go_wp2_with fail
  refine (C8.out _).mono ?_
  rintro e w2 ⟨rfl, rfl⟩
  go_wp2_with fail
  go_ret
  exact ⟨rfl, HQ.out⟩
end Go.Proofs.Ytamnpgcfgjlbeaa
