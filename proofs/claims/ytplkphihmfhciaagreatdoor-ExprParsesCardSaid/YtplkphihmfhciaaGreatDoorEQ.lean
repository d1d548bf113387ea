/-
  The printer's walks: single, behind, expression; Tokens.
-/
import Derived.Test.YtplkphihmfhciaaGreatDoorEP
namespace Go.Proofs.YtplkphihmfhciaaGreatDoor
open Go Go.RowKit Go.Lib Go.Shelf WM TM EM

def Gf (w : World) : Prop := Ge w ∧ Tb w
theorem Gf.keep {w w' : World} (h : Gf w) (hb : Below w.heap.size w w') : Gf w' := ⟨h.1.keep hb, h.2.keep hb⟩
theorem mitoa2 (n : Int) (h0 : 0 ≤ n) (h1 : n ≤ 9223372036854775807) (w : World) (hT : Tb w) :
  Calls Tryz.prog 78 #[.int .i64 n] w fun e w' => e = .returned (.string (str (nT n))) ∧ Below w.heap.size w w' := by
 refine (Tryz.strconv_Itoa n (by omega) h1 w hT).mono fun e w' ⟨he, k', os, hw⟩ => ⟨he, by rw [hw]; exact Lib.below_grow w.heap.size w (Nat.le_refl _) k' os⟩
def Pz (wb : World) (pb base : Nat) (v : Value) (l : List Tok) (W : World) : Prop :=
 St pb base v l W ∧ Below wb.heap.size wb W ∧ base ≤ W.heap.size ∧ wb.heap.size ≤ pb ∧ pb < base ∧ Gf wb
theorem Pz.keep {wb : World} {pb base : Nat} {v : Value} {l : List Tok} {W W' : World} (h : Pz wb pb base v l W) (hb : Below W.heap.size W W') : Pz wb pb base v l W' :=
 ⟨h.1.keep hb, h.2.1.trans (hb.mono h.2.1.size), Nat.le_trans h.2.2.1 hb.size, h.2.2.2⟩
theorem Pz.step {wb : World} {pb base : Nat} {v v' : Value} {l l' : List Tok} {W W' : World} (h : Pz wb pb base v l W) (hp : Pr pb W W' v v') (hs : St pb base v' l' W') : Pz wb pb base v' l' W' :=
 ⟨hs, hp.below h.2.1 (Nat.le_refl _) h.2.2.2.1 (fun g hg => by have h1 := (ownP_lt h.1.2 hg).1; have h2 := h.2.2.2.1; have h3 := h.2.2.2.2.1; omega), Nat.le_trans h.2.2.1 hp.size, h.2.2.2⟩
theorem Pz.gf {wb : World} {pb base : Nat} {v : Value} {l : List Tok} {W : World} (h : Pz wb pb base v l W) : Gf W := h.2.2.2.2.2.keep h.2.1
theorem pput (wb : World) (pb base : Nat) (v : Value) (l : List Tok) (W : World) (h : Pz wb pb base v l W) (hl : l.length ≤ 1000000) (k : Int) (X : ByteArray) :
  Calls Tryz.prog 54 #[.pointer (some ⟨pb, 0, none⟩), .int .i64 k, .string X] W fun r w' => r = .returned (.tuple #[]) ∧ ∃ v', Pz wb pb base v' (l ++ [tk k (byt X)]) w' ∧ Pr pb W w' v v' :=
 (mput pb base v l k X W h.2.2.2.2.1 h.2.2.1 hl h.1).mono fun r w' ⟨he, v', hs, hp⟩ => ⟨he, v', h.step hp hs, hp⟩
def PxC (wb : World) (pb base : Nat) (x : Ex) : Prop := ∀ (r : Nat) (so : Option Addr) (cap : Nat) (v : Value) (l : List Tok) (W : World), r ≤ 8 → Pz wb pb base v l W → ExprsAt so x.args wb → right x = true → l.length + 10 * siz x ≤ 100000 →
 Calls Tryz.prog 32 #[.pointer (some ⟨pb, 0, none⟩), .agg #[.int .i64 x.op, .int .i64 x.n, .string (str x.s), .slice so x.args.length cap], .int .i64 ((r : Int) + 1)] W fun e w' =>
  e = .returned (.tuple #[]) ∧ ∃ v', Pz wb pb base v' (l ++ wr r x) w' ∧ Pr pb W w' v v'
theorem par_len (b : Bool) (l : List Tok) : (par b l).length ≤ l.length + 2 := by
 cases b <;> simp [par]
theorem body_len : ∀ e, (body e).length + 2 ≤ 10 * siz e := by
 refine ex_ind _ fun e ih => ?_
 obtain ⟨o, n, s, a⟩ := e
 rw [siz_mk]
 match a, ih with
 | [], ih =>
  simp only [body, leaf]
  rw [sizs_nil]
  repeat' split
  all_goals simp
 | [a], ih =>
  have h1 := ih a (by simp [Ex.args])
  have h2 := par_len (decide (rk a.op < rk o)) (body a)
  rw [body, sizs_cons, sizs_nil]
  simp only [List.length_cons]
  omega
 | [a, b], ih =>
  have h1 := ih a (by simp [Ex.args])
  have h3 := ih b (by simp [Ex.args])
  have h2 := par_len (decide (rk a.op < lr o)) (body a)
  have h4 := par_len (decide (rk b.op < rk o + 1)) (body b)
  rw [body, sizs_cons, sizs_cons, sizs_nil]
  split
  ·simp only [List.length_cons, List.length_append, List.length_nil]; omega
  ·simp only [List.length_cons, List.length_append]; omega
 | [a, b, c], ih =>
  have h1 := ih a (by simp [Ex.args])
  have h2 := ih b (by simp [Ex.args])
  have h3 := ih c (by simp [Ex.args])
  rw [body, sizs_cons, sizs_cons, sizs_cons, sizs_nil]
  simp only [List.length_cons, List.length_append]
  omega
 | _ :: _ :: _ :: _ :: _, ih => rw [body]; simp only [List.length_nil]; omega
theorem wr_len (r : Nat) (e : Ex) : (wr r e).length ≤ 10 * siz e := by
 have := body_len e
 have := par_len (decide (rk e.op < r)) (body e)
 unfold wr
 omega

set_option maxRecDepth 100000 in
set_option maxHeartbeats 4000000 in
theorem msingle (wb : World) (pb base : Nat) (o n : Int) (s : List UInt8) (so : Option Addr) (cap : Nat) (ho : o = 1 ∨ o = 2 ∨ o = 3 ∨ o = 4) (h0 : 0 ≤ n) (hn : n ≤ most o) (v0 : Value) (l0 : List Tok) (w0 : World) (hz : Pz wb pb base v0 l0 w0) (hl : l0.length ≤ 100000) :
  Calls Tryz.prog 56 #[.pointer (some ⟨pb, 0, none⟩), .agg #[.int .i64 o, .int .i64 n, .string (str s), .slice so 0 cap]] w0 fun r w' => r = .returned (.tuple #[]) ∧ ∃ v', Pz wb pb base v' (l0 ++ leaf o n s) w' ∧ Pr pb w0 w' v0 v' := by
 have PUT := Lib.hid (fun v l W h hl k X => pput wb pb base v l W h hl k X)
 have HZ0 := Lib.hid hz
 have HP0 := Lib.hid (Pr.refl pb w0 v0)
 clear hz
 rcases ho with rfl | rfl | rfl | rfl
 ·have hn' : n ≤ 9223372036854775807 := by simp [most] at hn; omega
  have IT := Lib.hid (fun W (hW : Gf W) => mitoa2 n h0 hn' W hW.2)
  clear hn hn'
  go_enter Tryz.func56, Tryz.ntmps56
  go_wp2_with fail
  refine (IT.out _ (HZ0.out.gf.keep (by repeat (first | exact bref _ | refine bdr ?_ | refine bal ?_ _)))).mono ?_
  rintro r u1 ⟨rfl, hb1⟩
  have HB1 : Hid (Below w0.heap.size w0 u1) := Lib.hid (btr (by repeat (first | exact bref _ | refine bdr ?_ | refine bal ?_ _)) hb1)
  clear hb1
  go_wp2_with fail
  refine (PUT.out _ _ _ (HZ0.out.keep HB1.out) (by omega) 2 _).mono ?_
  rintro r w1 ⟨rfl, v1, hz1, hp1⟩
  have HZ1 := Lib.hid hz1
  have HP1 := Lib.hid (HP0.out.trans ((Pr.of_below HB1.out _).trans hp1))
  clear hz1 hp1
  go_wp2_with fail
  go_end0
  refine ⟨rfl, v1, ?_, HP1.out⟩
  have h := HZ1.out
  rw [byt_str] at h
  exact h
 ·have hn' : n ≤ 9223372036854775807 := by simp [most] at hn; omega
  have IT := Lib.hid (fun W (hW : Gf W) => mitoa2 n h0 hn' W hW.2)
  clear hn hn'
  go_enter Tryz.func56, Tryz.ntmps56
  go_wp2_with fail
  obtain ⟨u0, hu0⟩ : ∃ u0, w0.alloc (.cells #[.int .i64 2, .int .i64 n, .string (str s), .slice so 0 cap] 27) = u0 := ⟨_, rfl⟩
  have hbu : Below w0.heap.size w0 u0 := by rw [← hu0]; exact bal (bref _) _
  have x1 : u0.cell? ⟨w0.heap.size, 1, none⟩ = some (.int .i64 n) := by rw [← hu0]; simp [go_sem]
  have hpx : w0.heap.size ≠ pb := by have h1 := HZ0.out.2.2.1; have h2 := HZ0.out.2.2.2.2.1; omega
  have hvx : ∀ g, v0.ownBlock = some g → g ≠ w0.heap.size := fun g hg => by have := (ownP_lt HZ0.out.1.2 hg).2; omega
  have HBU := Lib.hid hbu
  have HPU := Lib.hid (Pr.of_below (pb := pb) hbu v0)
  rw [hu0]
  clear hu0 hbu
  refine (PUT.out _ _ _ (HZ0.out.keep HBU.out) (by omega) 4 _).mono ?_
  rintro r w1 ⟨rfl, v1, hz1, hp1⟩
  have HZ1 := Lib.hid hz1
  have HP1 := Lib.hid (HPU.out.trans hp1)
  have y1 := hp1.cell hpx hvx x1
  clear hz1 hp1 x1
  go_wp2_with fail
  refine (IT.out _ HZ1.out.gf).mono ?_
  rintro r u1 ⟨rfl, hb1⟩
  have HB1 : Hid (Below w1.heap.size w1 u1) := Lib.hid hb1
  clear hb1
  go_wp2_with fail
  refine (PUT.out _ _ _ (HZ1.out.keep HB1.out) (by simp; omega) 2 _).mono ?_
  rintro r w2 ⟨rfl, v2, hz2, hp2⟩
  have HZ2 := Lib.hid hz2
  have HP2 := Lib.hid (HP1.out.trans ((Pr.of_below HB1.out _).trans hp2))
  clear hz2 hp2
  go_wp2_with fail
  go_end0
  refine ⟨rfl, v2, ?_, HP2.out⟩
  have h := HZ2.out
  rw [byt_str, List.append_assoc] at h
  exact h
 ·have hn' : n ≤ 1000000 := by simpa [most] using hn
  have hp : pV n = qT n := by unfold pV qT; rw [if_pos ⟨h0, hn'⟩]
  have IT := Lib.hid (fun W (hW : Gf W) => mpercent n W hW.2)
  rw [hp] at IT
  clear hn hn' hp
  go_enter Tryz.func56, Tryz.ntmps56
  go_wp2_with fail
  refine (IT.out _ (HZ0.out.gf.keep (by repeat (first | exact bref _ | refine bdr ?_ | refine bal ?_ _)))).mono ?_
  rintro r u1 ⟨rfl, hb1⟩
  have HB1 : Hid (Below w0.heap.size w0 u1) := Lib.hid (btr (by repeat (first | exact bref _ | refine bdr ?_ | refine bal ?_ _)) hb1)
  clear hb1
  go_wp2_with fail
  refine (PUT.out _ _ _ (HZ0.out.keep HB1.out) (by omega) 3 _).mono ?_
  rintro r w1 ⟨rfl, v1, hz1, hp1⟩
  have HZ1 := Lib.hid hz1
  have HP1 := Lib.hid (HP0.out.trans ((Pr.of_below HB1.out _).trans hp1))
  clear hz1 hp1
  go_wp2_with fail
  go_end0
  refine ⟨rfl, v1, ?_, HP1.out⟩
  have h := HZ1.out
  rw [byt_str] at h
  exact h
 ·go_enter Tryz.func56, Tryz.ntmps56
  go_wp2_with fail
  refine (PUT.out _ _ _ (HZ0.out.keep (by repeat (first | exact bref _ | refine bdr ?_ | refine bal ?_ _))) (by omega) 1 _).mono ?_
  rintro r w1 ⟨rfl, v1, hz1, hp1⟩
  have HZ1 := Lib.hid hz1
  have HP1 := Lib.hid (HP0.out.trans ((Pr.of_below (by repeat (first | exact bref _ | refine bdr ?_ | refine bal ?_ _)) _).trans hp1))
  clear hz1 hp1
  go_wp2_with fail
  go_end0
  refine ⟨rfl, v1, ?_, HP1.out⟩
  have h := HZ1.out
  rw [byt_str] at h
  exact h
set_option maxRecDepth 100000 in
set_option maxHeartbeats 4000000 in
theorem mbehind9 (wb : World) (pb base : Nat) (a : Ex) (so : Option Addr) (cap : Nat) (iha : PxC wb pb base a) (ra : right a = true) (hL : ExprsAt so [a] wb) (v0 : Value) (l0 : List Tok) (w0 : World) (hz : Pz wb pb base v0 l0 w0) (hl : l0.length + 10 * siz a ≤ 100000) :
  Calls Tryz.prog 57 #[.pointer (some ⟨pb, 0, none⟩), .int .i64 9, .slice so 1 cap] w0 fun r w' => r = .returned (.tuple #[]) ∧ ∃ v', Pz wb pb base v' (l0 ++ wr 7 a) w' ∧ Pr pb w0 w' v0 v' := by
 have PUT := Lib.hid (fun v W l h hl k X => pput wb pb base v l W h hl k X)
 have HZ0 := Lib.hid hz
 have HP0 := Lib.hid (Pr.refl pb w0 v0)
 obtain ⟨b0, off0, so0, cap0, hso0, _, fa0, fa1, fa2, fa3, faL, _⟩ := hL.at 0 (by simp)
 simp only [List.getD_cons_zero, List.getD_cons_succ, Nat.zero_mul, Nat.add_zero, Nat.one_mul, Nat.reduceMul] at fa0 fa1 fa2 fa3 faL
 subst hso0
 have IHa := Lib.hid (fun v W l (h : Pz wb pb base v l W) (hl : l.length + 10 * siz a ≤ 100000) => iha 7 so0 cap0 v l W (by omega) h faL ra hl)
 have t1 : wb.cell? ⟨0, 37, none⟩ = some (.int .i64 (((7 : Nat) : Int) + 1)) := (hz.2.2.2.2.2.1.1.2 9 (by omega)).2.1
 clear hz hL faL iha
 go_enter Tryz.func57, Tryz.ntmps57
 go_wp2_with fail
 refine wp_region_held_drew (S := (fun W => Below wb.heap.size wb W)) (by kernel_rfl) (bdr HZ0.out.2.1) (fun hH0 => ?_)
 refine wpAnyH_take (i := 0) (oi := _) (v := ?_) rfl (by kernel_rfl) (by kernel_rfl) (by kernel_rfl) (fun _ _ _ h => h) (Or.inl ⟨?_, ?_⟩) hH0 ?_
 rotate_left
 ·kernel_rfl
 ·(intro W' hSw; have f0 := keepc hSw fa0; have f1 := keepc hSw fa1; have f2 := keepc hSw fa2; have f3 := keepc hSw fa3; have f4 := keepc hSw t1; go_simp; (try with_reducible rfl))
 (try simp only [List.getElem_toArray])
 (try simp only [List.getElem_cons_succ])
 (try simp only [List.getElem_cons_zero])
 (try simp only [Act.put])
 (try simp only [List.setIfInBounds_toArray])
 (try simp only [List.set_cons_succ])
 (try simp only [List.set_cons_zero])
 refine wpAnyH_take (i := 1) (oi := _) (v := ?_) rfl (by kernel_rfl) (by kernel_rfl) (by kernel_rfl) (fun _ _ _ h => h) (Or.inl ⟨?_, ?_⟩) hH0 ?_
 rotate_left
 ·kernel_rfl
 ·(intro W' hSw; have f0 := keepc hSw fa0; have f1 := keepc hSw fa1; have f2 := keepc hSw fa2; have f3 := keepc hSw fa3; have f4 := keepc hSw t1; go_simp; (try with_reducible rfl))
 (try simp only [List.getElem_toArray])
 (try simp only [List.getElem_cons_succ])
 (try simp only [List.getElem_cons_zero])
 (try simp only [Act.put])
 (try simp only [List.setIfInBounds_toArray])
 (try simp only [List.set_cons_succ])
 (try simp only [List.set_cons_zero])
 refine wpAnyH_take (i := 2) (oi := _) (v := ?_) rfl (by kernel_rfl) (by kernel_rfl) (by kernel_rfl) (fun _ _ _ h => h) (Or.inl ⟨?_, ?_⟩) hH0 ?_
 rotate_left
 ·kernel_rfl
 ·(intro W' hSw; have f0 := keepc hSw fa0; have f1 := keepc hSw fa1; have f2 := keepc hSw fa2; have f3 := keepc hSw fa3; have f4 := keepc hSw t1; go_simp; (try with_reducible rfl))
 (try simp only [List.getElem_toArray])
 (try simp only [List.getElem_cons_succ])
 (try simp only [List.getElem_cons_zero])
 (try simp only [Act.put])
 (try simp only [List.setIfInBounds_toArray])
 (try simp only [List.set_cons_succ])
 (try simp only [List.set_cons_zero])
 refine wpAnyH_take (i := 3) (oi := _) (v := ?_) rfl (by kernel_rfl) (by kernel_rfl) (by kernel_rfl) (fun _ _ _ h => h) (Or.inl ⟨?_, ?_⟩) hH0 ?_
 rotate_left
 ·kernel_rfl
 ·(intro W' hSw; have f0 := keepc hSw fa0; have f1 := keepc hSw fa1; have f2 := keepc hSw fa2; have f3 := keepc hSw fa3; have f4 := keepc hSw t1; go_simp; (try with_reducible rfl))
 (try simp only [List.getElem_toArray])
 (try simp only [List.getElem_cons_succ])
 (try simp only [List.getElem_cons_zero])
 (try simp only [Act.put])
 (try simp only [List.setIfInBounds_toArray])
 (try simp only [List.set_cons_succ])
 (try simp only [List.set_cons_zero])
 refine wpAnyH_take (i := 4) (oi := _) (v := ?_) rfl (by kernel_rfl) (by kernel_rfl) (by kernel_rfl) (fun _ _ _ h => h) (Or.inl ⟨?_, ?_⟩) hH0 ?_
 rotate_left
 ·kernel_rfl
 ·(intro W' hSw; have f0 := keepc hSw fa0; have f1 := keepc hSw fa1; have f2 := keepc hSw fa2; have f3 := keepc hSw fa3; have f4 := keepc hSw t1; go_simp; (try with_reducible rfl))
 (try simp only [List.getElem_toArray])
 (try simp only [List.getElem_cons_succ])
 (try simp only [List.getElem_cons_zero])
 (try simp only [Act.put])
 (try simp only [List.setIfInBounds_toArray])
 (try simp only [List.set_cons_succ])
 (try simp only [List.set_cons_zero])
 refine wpAnyH_take (i := 5) (oi := _) (v := ?_) rfl (by kernel_rfl) (by kernel_rfl) (by kernel_rfl) (fun _ _ _ h => h) (Or.inl ⟨?_, ?_⟩) hH0 ?_
 rotate_left
 ·kernel_rfl
 ·(intro W' hSw; have f0 := keepc hSw fa0; have f1 := keepc hSw fa1; have f2 := keepc hSw fa2; have f3 := keepc hSw fa3; have f4 := keepc hSw t1; go_simp; (try with_reducible rfl))
 (try simp only [List.getElem_toArray])
 (try simp only [List.getElem_cons_succ])
 (try simp only [List.getElem_cons_zero])
 (try simp only [Act.put])
 (try simp only [List.setIfInBounds_toArray])
 (try simp only [List.set_cons_succ])
 (try simp only [List.set_cons_zero])
 refine wpAnyH_take (i := 6) (oi := _) (v := ?_) rfl (by kernel_rfl) (by kernel_rfl) (by kernel_rfl) (fun _ _ _ h => h) (Or.inl ⟨?_, ?_⟩) hH0 ?_
 rotate_left
 ·kernel_rfl
 ·(intro W' hSw; have f0 := keepc hSw fa0; have f1 := keepc hSw fa1; have f2 := keepc hSw fa2; have f3 := keepc hSw fa3; have f4 := keepc hSw t1; go_simp; (try with_reducible rfl))
 (try simp only [List.getElem_toArray])
 (try simp only [List.getElem_cons_succ])
 (try simp only [List.getElem_cons_zero])
 (try simp only [Act.put])
 (try simp only [List.setIfInBounds_toArray])
 (try simp only [List.set_cons_succ])
 (try simp only [List.set_cons_zero])
 refine wpAnyH_take (i := 7) (oi := _) (v := ?_) rfl (by kernel_rfl) (by kernel_rfl) (by kernel_rfl) (fun _ _ _ h => h) (Or.inl ⟨?_, ?_⟩) hH0 ?_
 rotate_left
 ·kernel_rfl
 ·(intro W' hSw; have f0 := keepc hSw fa0; have f1 := keepc hSw fa1; have f2 := keepc hSw fa2; have f3 := keepc hSw fa3; have f4 := keepc hSw t1; go_simp; (try with_reducible rfl))
 (try simp only [List.getElem_toArray])
 (try simp only [List.getElem_cons_succ])
 (try simp only [List.getElem_cons_zero])
 (try simp only [Act.put])
 (try simp only [List.setIfInBounds_toArray])
 (try simp only [List.set_cons_succ])
 (try simp only [List.set_cons_zero])
 refine wpAnyH_ready (rs := [8]) (by kernel_rfl) (by simp) ?_
 refine AllReadyH.cons (o := _) rfl (fun K hK => ?_) AllReadyH.nil
 go_simp
 refine (IHa.out _ _ _ (HZ0.out.keep (bdr (bref _))) hl).mono ?_
 rintro r w1 ⟨rfl, v1, hz1, hp1⟩
 refine hK.out _ _ hz1.2.1 (fun hH1 => ?_)
 clear hK K
 (try simp only [List.getElem_toArray])
 (try simp only [List.getElem_cons_succ])
 (try simp only [List.getElem_cons_zero])
 (try simp only [Act.put])
 (try simp only [List.setIfInBounds_toArray])
 (try simp only [List.set_cons_succ])
 (try simp only [List.set_cons_zero])
 refine wpAnyH_done (by kernel_rfl) ?_ _
 have HZ1 := Lib.hid hz1
 have HP1 := Lib.hid ((Pr.of_below (pb := pb) (bdr (bref w0)) v0).trans hp1)
 clear hz1 hp1 hH0 hH1
 go_wp2_with fail
 go_end0
 exact ⟨rfl, v1, HZ1.out, HP1.out⟩
set_option maxRecDepth 100000 in
set_option maxHeartbeats 4000000 in
theorem mbehind16 (wb : World) (pb base : Nat) (a : Ex) (so : Option Addr) (cap : Nat) (iha : PxC wb pb base a) (ra : right a = true) (hL : ExprsAt so [a] wb) (v0 : Value) (l0 : List Tok) (w0 : World) (hz : Pz wb pb base v0 l0 w0) (hl : l0.length + 10 * siz a ≤ 100000) :
  Calls Tryz.prog 57 #[.pointer (some ⟨pb, 0, none⟩), .int .i64 16, .slice so 1 cap] w0 fun r w' => r = .returned (.tuple #[]) ∧ ∃ v', Pz wb pb base v' (l0 ++ wr 3 a) w' ∧ Pr pb w0 w' v0 v' := by
 have PUT := Lib.hid (fun v W l h hl k X => pput wb pb base v l W h hl k X)
 have HZ0 := Lib.hid hz
 have HP0 := Lib.hid (Pr.refl pb w0 v0)
 obtain ⟨b0, off0, so0, cap0, hso0, _, fa0, fa1, fa2, fa3, faL, _⟩ := hL.at 0 (by simp)
 simp only [List.getD_cons_zero, List.getD_cons_succ, Nat.zero_mul, Nat.add_zero, Nat.one_mul, Nat.reduceMul] at fa0 fa1 fa2 fa3 faL
 subst hso0
 have IHa := Lib.hid (fun v W l (h : Pz wb pb base v l W) (hl : l.length + 10 * siz a ≤ 100000) => iha 3 so0 cap0 v l W (by omega) h faL ra hl)
 have t1 : wb.cell? ⟨0, 65, none⟩ = some (.int .i64 (((3 : Nat) : Int) + 1)) := (hz.2.2.2.2.2.1.1.2 16 (by omega)).2.1
 clear hz hL faL iha
 go_enter Tryz.func57, Tryz.ntmps57
 go_wp2_with fail
 refine wp_region_held_drew (S := (fun W => Below wb.heap.size wb W)) (by kernel_rfl) (bdr HZ0.out.2.1) (fun hH0 => ?_)
 refine wpAnyH_take (i := 0) (oi := _) (v := ?_) rfl (by kernel_rfl) (by kernel_rfl) (by kernel_rfl) (fun _ _ _ h => h) (Or.inl ⟨?_, ?_⟩) hH0 ?_
 rotate_left
 ·kernel_rfl
 ·(intro W' hSw; have f0 := keepc hSw fa0; have f1 := keepc hSw fa1; have f2 := keepc hSw fa2; have f3 := keepc hSw fa3; have f4 := keepc hSw t1; go_simp; (try with_reducible rfl))
 (try simp only [List.getElem_toArray])
 (try simp only [List.getElem_cons_succ])
 (try simp only [List.getElem_cons_zero])
 (try simp only [Act.put])
 (try simp only [List.setIfInBounds_toArray])
 (try simp only [List.set_cons_succ])
 (try simp only [List.set_cons_zero])
 refine wpAnyH_take (i := 1) (oi := _) (v := ?_) rfl (by kernel_rfl) (by kernel_rfl) (by kernel_rfl) (fun _ _ _ h => h) (Or.inl ⟨?_, ?_⟩) hH0 ?_
 rotate_left
 ·kernel_rfl
 ·(intro W' hSw; have f0 := keepc hSw fa0; have f1 := keepc hSw fa1; have f2 := keepc hSw fa2; have f3 := keepc hSw fa3; have f4 := keepc hSw t1; go_simp; (try with_reducible rfl))
 (try simp only [List.getElem_toArray])
 (try simp only [List.getElem_cons_succ])
 (try simp only [List.getElem_cons_zero])
 (try simp only [Act.put])
 (try simp only [List.setIfInBounds_toArray])
 (try simp only [List.set_cons_succ])
 (try simp only [List.set_cons_zero])
 refine wpAnyH_take (i := 2) (oi := _) (v := ?_) rfl (by kernel_rfl) (by kernel_rfl) (by kernel_rfl) (fun _ _ _ h => h) (Or.inl ⟨?_, ?_⟩) hH0 ?_
 rotate_left
 ·kernel_rfl
 ·(intro W' hSw; have f0 := keepc hSw fa0; have f1 := keepc hSw fa1; have f2 := keepc hSw fa2; have f3 := keepc hSw fa3; have f4 := keepc hSw t1; go_simp; (try with_reducible rfl))
 (try simp only [List.getElem_toArray])
 (try simp only [List.getElem_cons_succ])
 (try simp only [List.getElem_cons_zero])
 (try simp only [Act.put])
 (try simp only [List.setIfInBounds_toArray])
 (try simp only [List.set_cons_succ])
 (try simp only [List.set_cons_zero])
 refine wpAnyH_take (i := 3) (oi := _) (v := ?_) rfl (by kernel_rfl) (by kernel_rfl) (by kernel_rfl) (fun _ _ _ h => h) (Or.inl ⟨?_, ?_⟩) hH0 ?_
 rotate_left
 ·kernel_rfl
 ·(intro W' hSw; have f0 := keepc hSw fa0; have f1 := keepc hSw fa1; have f2 := keepc hSw fa2; have f3 := keepc hSw fa3; have f4 := keepc hSw t1; go_simp; (try with_reducible rfl))
 (try simp only [List.getElem_toArray])
 (try simp only [List.getElem_cons_succ])
 (try simp only [List.getElem_cons_zero])
 (try simp only [Act.put])
 (try simp only [List.setIfInBounds_toArray])
 (try simp only [List.set_cons_succ])
 (try simp only [List.set_cons_zero])
 refine wpAnyH_take (i := 4) (oi := _) (v := ?_) rfl (by kernel_rfl) (by kernel_rfl) (by kernel_rfl) (fun _ _ _ h => h) (Or.inl ⟨?_, ?_⟩) hH0 ?_
 rotate_left
 ·kernel_rfl
 ·(intro W' hSw; have f0 := keepc hSw fa0; have f1 := keepc hSw fa1; have f2 := keepc hSw fa2; have f3 := keepc hSw fa3; have f4 := keepc hSw t1; go_simp; (try with_reducible rfl))
 (try simp only [List.getElem_toArray])
 (try simp only [List.getElem_cons_succ])
 (try simp only [List.getElem_cons_zero])
 (try simp only [Act.put])
 (try simp only [List.setIfInBounds_toArray])
 (try simp only [List.set_cons_succ])
 (try simp only [List.set_cons_zero])
 refine wpAnyH_take (i := 5) (oi := _) (v := ?_) rfl (by kernel_rfl) (by kernel_rfl) (by kernel_rfl) (fun _ _ _ h => h) (Or.inl ⟨?_, ?_⟩) hH0 ?_
 rotate_left
 ·kernel_rfl
 ·(intro W' hSw; have f0 := keepc hSw fa0; have f1 := keepc hSw fa1; have f2 := keepc hSw fa2; have f3 := keepc hSw fa3; have f4 := keepc hSw t1; go_simp; (try with_reducible rfl))
 (try simp only [List.getElem_toArray])
 (try simp only [List.getElem_cons_succ])
 (try simp only [List.getElem_cons_zero])
 (try simp only [Act.put])
 (try simp only [List.setIfInBounds_toArray])
 (try simp only [List.set_cons_succ])
 (try simp only [List.set_cons_zero])
 refine wpAnyH_take (i := 6) (oi := _) (v := ?_) rfl (by kernel_rfl) (by kernel_rfl) (by kernel_rfl) (fun _ _ _ h => h) (Or.inl ⟨?_, ?_⟩) hH0 ?_
 rotate_left
 ·kernel_rfl
 ·(intro W' hSw; have f0 := keepc hSw fa0; have f1 := keepc hSw fa1; have f2 := keepc hSw fa2; have f3 := keepc hSw fa3; have f4 := keepc hSw t1; go_simp; (try with_reducible rfl))
 (try simp only [List.getElem_toArray])
 (try simp only [List.getElem_cons_succ])
 (try simp only [List.getElem_cons_zero])
 (try simp only [Act.put])
 (try simp only [List.setIfInBounds_toArray])
 (try simp only [List.set_cons_succ])
 (try simp only [List.set_cons_zero])
 refine wpAnyH_take (i := 7) (oi := _) (v := ?_) rfl (by kernel_rfl) (by kernel_rfl) (by kernel_rfl) (fun _ _ _ h => h) (Or.inl ⟨?_, ?_⟩) hH0 ?_
 rotate_left
 ·kernel_rfl
 ·(intro W' hSw; have f0 := keepc hSw fa0; have f1 := keepc hSw fa1; have f2 := keepc hSw fa2; have f3 := keepc hSw fa3; have f4 := keepc hSw t1; go_simp; (try with_reducible rfl))
 (try simp only [List.getElem_toArray])
 (try simp only [List.getElem_cons_succ])
 (try simp only [List.getElem_cons_zero])
 (try simp only [Act.put])
 (try simp only [List.setIfInBounds_toArray])
 (try simp only [List.set_cons_succ])
 (try simp only [List.set_cons_zero])
 refine wpAnyH_ready (rs := [8]) (by kernel_rfl) (by simp) ?_
 refine AllReadyH.cons (o := _) rfl (fun K hK => ?_) AllReadyH.nil
 go_simp
 refine (IHa.out _ _ _ (HZ0.out.keep (bdr (bref _))) hl).mono ?_
 rintro r w1 ⟨rfl, v1, hz1, hp1⟩
 refine hK.out _ _ hz1.2.1 (fun hH1 => ?_)
 clear hK K
 (try simp only [List.getElem_toArray])
 (try simp only [List.getElem_cons_succ])
 (try simp only [List.getElem_cons_zero])
 (try simp only [Act.put])
 (try simp only [List.setIfInBounds_toArray])
 (try simp only [List.set_cons_succ])
 (try simp only [List.set_cons_zero])
 refine wpAnyH_done (by kernel_rfl) ?_ _
 have HZ1 := Lib.hid hz1
 have HP1 := Lib.hid ((Pr.of_below (pb := pb) (bdr (bref w0)) v0).trans hp1)
 clear hz1 hp1 hH0 hH1
 go_wp2_with fail
 go_end0
 exact ⟨rfl, v1, HZ1.out, HP1.out⟩
set_option maxRecDepth 100000 in
set_option maxHeartbeats 4000000 in
theorem mbehind17 (wb : World) (pb base : Nat) (a b : Ex) (so : Option Addr) (cap : Nat) (iha : PxC wb pb base a) (ihb : PxC wb pb base b) (ra : right a = true) (rb : right b = true) (hL : ExprsAt so [a, b] wb) (v0 : Value) (l0 : List Tok) (w0 : World) (hz : Pz wb pb base v0 l0 w0) (hl : l0.length + 10 * siz a + 10 * siz b + 3 ≤ 100000) :
  Calls Tryz.prog 57 #[.pointer (some ⟨pb, 0, none⟩), .int .i64 17, .slice so 2 cap] w0 fun r w' => r = .returned (.tuple #[]) ∧ ∃ v', Pz wb pb base v' (l0 ++ tk 4 [40] :: (body a ++ tk 4 [44] :: (body b ++ [tk 4 [41]]))) w' ∧ Pr pb w0 w' v0 v' := by
 have PUT := Lib.hid (fun v W l h hl k X => pput wb pb base v l W h hl k X)
 have HZ0 := Lib.hid hz
 have HP0 := Lib.hid (Pr.refl pb w0 v0)
 obtain ⟨b0, off0, so0, cap0, hso0, _, fa0, fa1, fa2, fa3, faL, _⟩ := hL.at 0 (by simp)
 simp only [List.getD_cons_zero, List.getD_cons_succ, Nat.zero_mul, Nat.add_zero, Nat.one_mul, Nat.reduceMul] at fa0 fa1 fa2 fa3 faL
 obtain ⟨b1, off1, so1, cap1, hso1, _, fb0, fb1, fb2, fb3, fbL, _⟩ := hL.at 1 (by simp)
 simp only [List.getD_cons_zero, List.getD_cons_succ, Nat.zero_mul, Nat.add_zero, Nat.one_mul, Nat.reduceMul] at fb0 fb1 fb2 fb3 fbL
 rw [hso0] at hso1
 injection hso1 with hso1
 injection hso1 with e1 e2
 subst e1
 subst e2
 subst hso0
 have IHa := Lib.hid (fun v W l (h : Pz wb pb base v l W) (hl : l.length + 10 * siz a ≤ 100000) => iha 0 so0 cap0 v l W (by omega) h faL ra hl)
 have IHb := Lib.hid (fun v W l (h : Pz wb pb base v l W) (hl : l.length + 10 * siz b ≤ 100000) => ihb 0 so1 cap1 v l W (by omega) h fbL rb hl)
 simp only [wr_zero] at IHa IHb
 clear hz hL faL fbL iha ihb
 go_enter Tryz.func57, Tryz.ntmps57
 go_wp2_with fail
 refine (PUT.out _ _ _ HZ0.out (by omega) 4 _).mono ?_
 rintro r w1 ⟨rfl, v1, hz1, hp1⟩
 have HZ1 := Lib.hid hz1
 have HP1 := Lib.hid (HP0.out.trans hp1)
 clear hz1 hp1
 have c0 := keepc HZ1.out.2.1 fa0
 have c1 := keepc HZ1.out.2.1 fa1
 have c2 := keepc HZ1.out.2.1 fa2
 have c3 := keepc HZ1.out.2.1 fa3
 go_wp2_with fail
 refine (IHa.out _ _ _ HZ1.out (by simp; omega)).mono ?_
 rintro r w2 ⟨rfl, v2, hz2, hp2⟩
 have HZ2 := Lib.hid hz2
 have HP2 := Lib.hid (HP1.out.trans hp2)
 clear hz2 hp2 c0 c1 c2 c3
 go_wp2_with fail
 refine (PUT.out _ _ _ HZ2.out (by have h1 := body_len a; have h2 := body_len b;  simp; omega) 4 _).mono ?_
 rintro r w3 ⟨rfl, v3, hz3, hp3⟩
 have HZ3 := Lib.hid hz3
 have HP3 := Lib.hid (HP2.out.trans hp3)
 clear hz3 hp3
 have c0 := keepc HZ3.out.2.1 fb0
 have c1 := keepc HZ3.out.2.1 fb1
 have c2 := keepc HZ3.out.2.1 fb2
 have c3 := keepc HZ3.out.2.1 fb3
 go_wp2_with fail
 refine (IHb.out _ _ _ HZ3.out (by have h1 := body_len a; have h2 := body_len b;  simp; omega)).mono ?_
 rintro r w4 ⟨rfl, v4, hz4, hp4⟩
 have HZ4 := Lib.hid hz4
 have HP4 := Lib.hid (HP3.out.trans hp4)
 clear hz4 hp4 c0 c1 c2 c3
 go_wp2_with fail
 refine (PUT.out _ _ _ HZ4.out (by have h1 := body_len a; have h2 := body_len b;  simp; omega) 4 _).mono ?_
 rintro r w5 ⟨rfl, v5, hz5, hp5⟩
 have HZ5 := Lib.hid hz5
 have HP5 := Lib.hid (HP4.out.trans hp5)
 clear hz5 hp5
 go_wp2_with fail
 go_end0
 refine ⟨rfl, v5, ?_, HP5.out⟩
 have h := HZ5.out
 simp only [List.append_assoc, List.singleton_append, List.cons_append, List.nil_append] at h
 exact h
set_option maxRecDepth 100000 in
set_option maxHeartbeats 4000000 in
theorem mbehind18 (wb : World) (pb base : Nat) (a b : Ex) (so : Option Addr) (cap : Nat) (iha : PxC wb pb base a) (ihb : PxC wb pb base b) (ra : right a = true) (rb : right b = true) (hL : ExprsAt so [a, b] wb) (v0 : Value) (l0 : List Tok) (w0 : World) (hz : Pz wb pb base v0 l0 w0) (hl : l0.length + 10 * siz a + 10 * siz b + 3 ≤ 100000) :
  Calls Tryz.prog 57 #[.pointer (some ⟨pb, 0, none⟩), .int .i64 18, .slice so 2 cap] w0 fun r w' => r = .returned (.tuple #[]) ∧ ∃ v', Pz wb pb base v' (l0 ++ tk 4 [40] :: (body a ++ tk 4 [44] :: (body b ++ [tk 4 [41]]))) w' ∧ Pr pb w0 w' v0 v' := by
 have PUT := Lib.hid (fun v W l h hl k X => pput wb pb base v l W h hl k X)
 have HZ0 := Lib.hid hz
 have HP0 := Lib.hid (Pr.refl pb w0 v0)
 obtain ⟨b0, off0, so0, cap0, hso0, _, fa0, fa1, fa2, fa3, faL, _⟩ := hL.at 0 (by simp)
 simp only [List.getD_cons_zero, List.getD_cons_succ, Nat.zero_mul, Nat.add_zero, Nat.one_mul, Nat.reduceMul] at fa0 fa1 fa2 fa3 faL
 obtain ⟨b1, off1, so1, cap1, hso1, _, fb0, fb1, fb2, fb3, fbL, _⟩ := hL.at 1 (by simp)
 simp only [List.getD_cons_zero, List.getD_cons_succ, Nat.zero_mul, Nat.add_zero, Nat.one_mul, Nat.reduceMul] at fb0 fb1 fb2 fb3 fbL
 rw [hso0] at hso1
 injection hso1 with hso1
 injection hso1 with e1 e2
 subst e1
 subst e2
 subst hso0
 have IHa := Lib.hid (fun v W l (h : Pz wb pb base v l W) (hl : l.length + 10 * siz a ≤ 100000) => iha 0 so0 cap0 v l W (by omega) h faL ra hl)
 have IHb := Lib.hid (fun v W l (h : Pz wb pb base v l W) (hl : l.length + 10 * siz b ≤ 100000) => ihb 0 so1 cap1 v l W (by omega) h fbL rb hl)
 simp only [wr_zero] at IHa IHb
 clear hz hL faL fbL iha ihb
 go_enter Tryz.func57, Tryz.ntmps57
 go_wp2_with fail
 refine (PUT.out _ _ _ HZ0.out (by omega) 4 _).mono ?_
 rintro r w1 ⟨rfl, v1, hz1, hp1⟩
 have HZ1 := Lib.hid hz1
 have HP1 := Lib.hid (HP0.out.trans hp1)
 clear hz1 hp1
 have c0 := keepc HZ1.out.2.1 fa0
 have c1 := keepc HZ1.out.2.1 fa1
 have c2 := keepc HZ1.out.2.1 fa2
 have c3 := keepc HZ1.out.2.1 fa3
 go_wp2_with fail
 refine (IHa.out _ _ _ HZ1.out (by simp; omega)).mono ?_
 rintro r w2 ⟨rfl, v2, hz2, hp2⟩
 have HZ2 := Lib.hid hz2
 have HP2 := Lib.hid (HP1.out.trans hp2)
 clear hz2 hp2 c0 c1 c2 c3
 go_wp2_with fail
 refine (PUT.out _ _ _ HZ2.out (by have h1 := body_len a; have h2 := body_len b;  simp; omega) 4 _).mono ?_
 rintro r w3 ⟨rfl, v3, hz3, hp3⟩
 have HZ3 := Lib.hid hz3
 have HP3 := Lib.hid (HP2.out.trans hp3)
 clear hz3 hp3
 have c0 := keepc HZ3.out.2.1 fb0
 have c1 := keepc HZ3.out.2.1 fb1
 have c2 := keepc HZ3.out.2.1 fb2
 have c3 := keepc HZ3.out.2.1 fb3
 go_wp2_with fail
 refine (IHb.out _ _ _ HZ3.out (by have h1 := body_len a; have h2 := body_len b;  simp; omega)).mono ?_
 rintro r w4 ⟨rfl, v4, hz4, hp4⟩
 have HZ4 := Lib.hid hz4
 have HP4 := Lib.hid (HP3.out.trans hp4)
 clear hz4 hp4 c0 c1 c2 c3
 go_wp2_with fail
 refine (PUT.out _ _ _ HZ4.out (by have h1 := body_len a; have h2 := body_len b;  simp; omega) 4 _).mono ?_
 rintro r w5 ⟨rfl, v5, hz5, hp5⟩
 have HZ5 := Lib.hid hz5
 have HP5 := Lib.hid (HP4.out.trans hp5)
 clear hz5 hp5
 go_wp2_with fail
 go_end0
 refine ⟨rfl, v5, ?_, HP5.out⟩
 have h := HZ5.out
 simp only [List.append_assoc, List.singleton_append, List.cons_append, List.nil_append] at h
 exact h
set_option maxRecDepth 100000 in
set_option maxHeartbeats 4000000 in
theorem mbehind19 (wb : World) (pb base : Nat) (a b c : Ex) (so : Option Addr) (cap : Nat) (iha : PxC wb pb base a) (ihb : PxC wb pb base b) (ihc : PxC wb pb base c) (ra : right a = true) (rb : right b = true) (rc : right c = true) (hL : ExprsAt so [a, b, c] wb) (v0 : Value) (l0 : List Tok) (w0 : World) (hz : Pz wb pb base v0 l0 w0) (hl : l0.length + 10 * siz a + 10 * siz b + 10 * siz c + 3 ≤ 100000) :
  Calls Tryz.prog 57 #[.pointer (some ⟨pb, 0, none⟩), .int .i64 19, .slice so 3 cap] w0 fun r w' => r = .returned (.tuple #[]) ∧ ∃ v', Pz wb pb base v' (l0 ++ (body a ++ tk 5 wThen :: (body b ++ tk 5 wElse :: body c))) w' ∧ Pr pb w0 w' v0 v' := by
 have PUT := Lib.hid (fun v W l h hl k X => pput wb pb base v l W h hl k X)
 have HZ0 := Lib.hid hz
 have HP0 := Lib.hid (Pr.refl pb w0 v0)
 obtain ⟨b0, off0, so0, cap0, hso0, _, fa0, fa1, fa2, fa3, faL, _⟩ := hL.at 0 (by simp)
 simp only [List.getD_cons_zero, List.getD_cons_succ, Nat.zero_mul, Nat.add_zero, Nat.one_mul, Nat.reduceMul] at fa0 fa1 fa2 fa3 faL
 obtain ⟨b1, off1, so1, cap1, hso1, _, fb0, fb1, fb2, fb3, fbL, _⟩ := hL.at 1 (by simp)
 simp only [List.getD_cons_zero, List.getD_cons_succ, Nat.zero_mul, Nat.add_zero, Nat.one_mul, Nat.reduceMul] at fb0 fb1 fb2 fb3 fbL
 obtain ⟨b2, off2, so2, cap2, hso2, _, fc0, fc1, fc2, fc3, fcL, _⟩ := hL.at 2 (by simp)
 simp only [List.getD_cons_zero, List.getD_cons_succ, Nat.zero_mul, Nat.add_zero, Nat.one_mul, Nat.reduceMul] at fc0 fc1 fc2 fc3 fcL
 rw [hso0] at hso1 hso2
 injection hso1 with hso1
 injection hso1 with e1 e2
 injection hso2 with hso2
 injection hso2 with e3 e4
 subst e1
 subst e2
 subst e3
 subst e4
 subst hso0
 have IHa := Lib.hid (fun v W l (h : Pz wb pb base v l W) (hl : l.length + 10 * siz a ≤ 100000) => iha 0 so0 cap0 v l W (by omega) h faL ra hl)
 have IHb := Lib.hid (fun v W l (h : Pz wb pb base v l W) (hl : l.length + 10 * siz b ≤ 100000) => ihb 0 so1 cap1 v l W (by omega) h fbL rb hl)
 have IHc := Lib.hid (fun v W l (h : Pz wb pb base v l W) (hl : l.length + 10 * siz c ≤ 100000) => ihc 0 so2 cap2 v l W (by omega) h fcL rc hl)
 simp only [wr_zero] at IHa IHb IHc
 clear hz hL faL fbL fcL iha ihb ihc
 go_enter Tryz.func57, Tryz.ntmps57
 have c0 := keepc HZ0.out.2.1 fa0
 have c1 := keepc HZ0.out.2.1 fa1
 have c2 := keepc HZ0.out.2.1 fa2
 have c3 := keepc HZ0.out.2.1 fa3
 go_wp2_with fail
 refine (IHa.out _ _ _ HZ0.out (by omega)).mono ?_
 rintro r w1 ⟨rfl, v1, hz1, hp1⟩
 have HZ1 := Lib.hid hz1
 have HP1 := Lib.hid (HP0.out.trans hp1)
 clear hz1 hp1 c0 c1 c2 c3
 go_wp2_with fail
 refine (PUT.out _ _ _ HZ1.out (by have h1 := body_len a; have h2 := body_len b; have h3 := body_len c; simp; omega) 5 _).mono ?_
 rintro r w2 ⟨rfl, v2, hz2, hp2⟩
 have HZ2 := Lib.hid hz2
 have HP2 := Lib.hid (HP1.out.trans hp2)
 clear hz2 hp2
 have c0 := keepc HZ2.out.2.1 fb0
 have c1 := keepc HZ2.out.2.1 fb1
 have c2 := keepc HZ2.out.2.1 fb2
 have c3 := keepc HZ2.out.2.1 fb3
 go_wp2_with fail
 refine (IHb.out _ _ _ HZ2.out (by have h1 := body_len a; have h2 := body_len b; have h3 := body_len c; simp; omega)).mono ?_
 rintro r w3 ⟨rfl, v3, hz3, hp3⟩
 have HZ3 := Lib.hid hz3
 have HP3 := Lib.hid (HP2.out.trans hp3)
 clear hz3 hp3 c0 c1 c2 c3
 go_wp2_with fail
 refine (PUT.out _ _ _ HZ3.out (by have h1 := body_len a; have h2 := body_len b; have h3 := body_len c; simp; omega) 5 _).mono ?_
 rintro r w4 ⟨rfl, v4, hz4, hp4⟩
 have HZ4 := Lib.hid hz4
 have HP4 := Lib.hid (HP3.out.trans hp4)
 clear hz4 hp4
 have c0 := keepc HZ4.out.2.1 fc0
 have c1 := keepc HZ4.out.2.1 fc1
 have c2 := keepc HZ4.out.2.1 fc2
 have c3 := keepc HZ4.out.2.1 fc3
 go_wp2_with fail
 refine (IHc.out _ _ _ HZ4.out (by have h1 := body_len a; have h2 := body_len b; have h3 := body_len c; simp; omega)).mono ?_
 rintro r w5 ⟨rfl, v5, hz5, hp5⟩
 have HZ5 := Lib.hid hz5
 have HP5 := Lib.hid (HP4.out.trans hp5)
 clear hz5 hp5 c0 c1 c2 c3
 go_wp2_with fail
 go_end0
 refine ⟨rfl, v5, ?_, HP5.out⟩
 have h := HZ5.out
 simp only [List.append_assoc, List.singleton_append, List.cons_append, List.nil_append] at h
 exact h
end Go.Proofs.YtplkphihmfhciaaGreatDoor
