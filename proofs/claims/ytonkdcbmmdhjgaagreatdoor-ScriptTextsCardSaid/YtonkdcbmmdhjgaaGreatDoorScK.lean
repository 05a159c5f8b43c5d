/-
  script.Parse.
-/
import Derived.Test.YtonkdcbmmdhjgaaGreatDoorScJ
import Derived.Test.YtonkdcbmmdhjgaaGreatDoorEv
namespace Go.Proofs.YtonkdcbmmdhjgaaGreatDoor
open Go.RowKit Go.Shelf

attribute [local go_sem] Oper.semAt_some

/-- A line with its end, as the op that it is. -/
def lineP (x : List UInt8) : Option OpV := if Lib.hasSuffix x [10] = true then parseL (Lib.trimSuffix x [10]) else none
def allL : List (List UInt8) → Option (List OpV)
  | [] => some []
  | x :: r => (lineP x).bind fun o => (allL r).map fun os => o :: os
theorem suffix_end (p : List UInt8) : Lib.hasSuffix (p ++ [10]) [10] = true ∧ Lib.trimSuffix (p ++ [10]) [10] = p := by
  have h : Lib.hasSuffix (p ++ [10]) [10] = true := by simp [Lib.hasSuffix]
  refine ⟨h, ?_⟩
  unfold Lib.trimSuffix
  rw [if_pos h]
  simp
theorem suffix_no {q : List UInt8} (h : (10 : UInt8) ∉ q) : Lib.hasSuffix q [10] = false := by
  cases hs : Lib.hasSuffix q [10] with
  | false => rfl
  | true =>
    exfalso
    unfold Lib.hasSuffix at hs
    have := List.isSuffixOf_iff_suffix.1 hs
    exact h (this.subset (by simp))
theorem allL_lines : ∀ ps : List (List UInt8), ps ≠ [] → (∀ p ∈ ps, (10 : UInt8) ∉ p) → parseLs ps = allL (linesOf ps)
  | [], h, _ => absurd rfl h
  | [q], _, h => by
    rw [parseLs, linesOf]
    split
    · rfl
    · rw [allL, lineP, if_neg (by rw [suffix_no (h q (by simp))]; simp)]; rfl
  | p :: q :: r, _, h => by
    have ih := allL_lines (q :: r) (by simp) fun x hx => h x (List.mem_cons_of_mem _ hx)
    have e := suffix_end p
    rw [parseLs, linesOf, allL, lineP, if_pos e.1, e.2, ih]
theorem parseLs_lines (l : List UInt8) : parseLs (splitP 10 l) = allL (linesOf (splitP 10 l)) := allL_lines _ (splitP_ne _ _) fun p hp => (splitP_mem 10 l p hp).1
theorem allL_app : ∀ (a : List (List UInt8)) (os : List OpV) (b : List (List UInt8)), allL a = some os → allL (a ++ b) = (allL b).map fun x => os ++ x
  | [], os, b, h => by simp [allL] at h; subst h; simp
  | x :: r, os, b, h => by
    rw [allL] at h
    obtain ⟨o, h1, h2⟩ := Option.bind_eq_some_iff.1 h
    obtain ⟨os', h3, rfl⟩ := Option.map_eq_some_iff.1 h2
    rw [List.cons_append, allL, h1, allL_app r os' b h3]
    cases allL b <;> simp
theorem allL_len : ∀ (a : List (List UInt8)) (os : List OpV), allL a = some os → os.length = a.length
  | [], os, h => by simp [allL] at h; subst h; rfl
  | x :: r, os, h => by
    rw [allL] at h
    obtain ⟨o, h1, h2⟩ := Option.bind_eq_some_iff.1 h
    obtain ⟨os', h3, rfl⟩ := Option.map_eq_some_iff.1 h2
    simp [allL_len r os' h3]
theorem linesOf_len : ∀ ps : List (List UInt8), (linesOf ps).length ≤ ps.length
  | [] => by simp [linesOf]
  | [q] => by rw [linesOf]; split <;> simp
  | p :: q :: r => by have := linesOf_len (q :: r); simp only [linesOf, List.length_cons] at this ⊢; omega
theorem linesOf_mem : ∀ (ps : List (List UInt8)) (x : List UInt8), x ∈ linesOf ps → ∃ p ∈ ps, x.length ≤ p.length + 1
  | [], x, h => by simp [linesOf] at h
  | [q], x, h => by
    rw [linesOf] at h
    split at h
    · simp at h
    · simp at h; subst h; exact ⟨x, by simp, by omega⟩
  | p :: q :: r, x, h => by
    rw [linesOf] at h
    rcases List.mem_cons.1 h with rfl | h
    · exact ⟨p, by simp, by simp⟩
    · obtain ⟨p', h1, h2⟩ := linesOf_mem (q :: r) x h
      exact ⟨p', List.mem_cons_of_mem _ h1, h2⟩
theorem pieces_len (c : UInt8) (l : List UInt8) : (splitP c l).length ≤ l.length + 1 := by
  have h1 := joinP_len c (splitP c l) (splitP_ne c l)
  rw [joinP_splitP] at h1
  have : ∀ ps : List (List UInt8), ps.length ≤ (ps.map (·.length + 1)).sum := by
    intro ps
    induction ps with
    | nil => simp
    | cons a r ih => simp only [List.length_cons, List.map_cons, List.sum_cons]; omega
  have := this (splitP c l)
  omega
/-- The cells of a row of ops. -/
def opsC (os : List OpM) : List Value := os.flatMap fun o => o.val.toList
theorem opsC_length : ∀ os : List OpM, (opsC os).length = os.length * 6
  | [] => rfl
  | o :: r => by
    have := opsC_length r
    simp only [opsC, List.flatMap_cons, List.length_append, List.length_cons, Array.length_toList] at this ⊢
    rw [this, show o.val.size = 6 from rfl]
    omega
theorem opsC_snoc (os : List OpM) (o : OpM) : opsC (os ++ [o]) = opsC os ++ o.val.toList := by simp [opsC]
/-- What Parse leaves. -/
def ParseTPost (w : World) (EL EF : Addr) (l : List UInt8) (e : Ending) (w' : World) : Prop := w.grownBy w' none ∧
  ((65535 < l.length ∧ e = .returned (.tuple #[.slice none 0 0, errV EL])) ∨ (l.length ≤ 65535 ∧ parseLs (splitP 10 l) = none ∧ e = .returned (.tuple #[.slice none 0 0, errV EF])) ∨
    (l.length ≤ 65535 ∧ ∃ os : List OpM, parseLs (splitP 10 l) = some (os.map OpM.v) ∧ ∃ A c, e = .returned (.tuple #[.slice A os.length c, .nilIface]) ∧ w'.ownsRow w.heap.size 29 6 (.slice A os.length c) os.length (opsC os) ∧ ∀ o ∈ os, o.Own w' w.heap.size))
theorem op_info : (Tryz.prog.info? 29).map (fun i => (i.zero, i.size, i.bytes)) = some (some (.agg #[.int .i64 0, .int .i64 0, .int .i64 0, .slice none 0 0, .slice none 0 0, .slice none 0 0]), 6, 96) := by kernel_rfl
theorem load_opsS {w : World} {p : Addr} {A : Option Addr} {n c : Nat} (h : w.cell? p = some (.slice A n c)) : (loadVar 22 p).run Tryz.prog w = .ok (.slice A n c) w := by
  go_simp
theorem load_errS {w : World} {p : Addr} {v : Value} (h : w.cell? p = some v) : (loadVar 34 p).run Tryz.prog w = .ok v w := by
  go_simp
theorem load_err2 {w : World} {p a : Addr} (h : w.cell? p = some (errV a)) : (loadVar 34 p).run Tryz.prog w = .ok (errV a) w := by
  go_simp
theorem load_nilS {w : World} {p : Addr} (h : w.cell? p = some .nilIface) : (loadVar 34 p).run Tryz.prog w = .ok .nilIface w := by
  go_simp
theorem addr_zero_addS (b j : Nat) : (⟨b, 0, none⟩ : Addr).add j = ⟨b, j, none⟩ := by
  unfold Addr.add
  split
  · next h => subst h; rfl
  · simp
theorem opm_one (o : OpM) (u : Value) (hu : u ∈ o.val.toList) : u.oneCell' = true := by
  simp only [OpM.val, List.mem_cons, List.not_mem_nil, or_false] at hu
  rcases hu with rfl | rfl | rfl | rfl | rfl | rfl <;> rfl
/-- What is appended to a row of another type leaves a row as it is. -/
theorem own_other {A B : World} {base base' size size' n n' : Nat} {e e' : TypeId} {v v' : Value} {xs xs' : List Value} (h : A.ownsRow base e size v n xs) (hne : e ≠ e') (h' : A.ownsRow base' e' size' v' n' xs') (hg : A.grownBy B v'.ownBlock) : B.ownsRow base e size v n xs := by
  rcases h'.2 with ⟨rfl, _⟩ | ⟨g, cap, cur, rfl, _, hh, _⟩
  · exact own_gr h hg
  · exact own_apart (g := g) (cs := cur) h hh hne hg
/-- Between two rounds. -/
def ParI (w : World) (l : List UInt8) (pre : List (List UInt8)) (W : World) : Prop := ∃ v, ∃ os : List OpM, (pre = (linesOf (splitP 10 l)).take pre.length ∧ allL pre = some (os.map OpM.v)) ∧ w.heap.size + 4 ≤ W.heap.size ∧ Blk W (w.heap.size + 2) 22 #[v] ∧
  W.ownsRow (w.heap.size + 4) 29 6 v os.length (opsC os) ∧ (∀ o ∈ os, o.Own W (w.heap.size + 4)) ∧ Blk W w.heap.size 22 #[.slice none 0 0] ∧ Blk W (w.heap.size + 1) 34 #[.nilIface] ∧ w.grownBy W none
/-- A round has said no. -/
def ParX (w : World) (EF : Addr) (l : List UInt8) (c : Code) (_ : List (List UInt8)) (W : World) : Prop := (c = .ret ∧ parseLs (splitP 10 l) = none) ∧ Blk W w.heap.size 22 #[.slice none 0 0] ∧ Blk W (w.heap.size + 1) 34 #[errV EF] ∧ w.grownBy W none
section
variable {w : World} {l : List UInt8} {EF : Addr}
theorem opm_from {base B : Nat} {o : OpM} : OwnFrom B (fun (_ : Unit) W => o.Own W base) := fun s A C row hs hg hr =>
  ⟨ownFrom_own (fun _ => _) () A C row hs.1 hg hr, ownFrom_own (fun _ => _) () A C row hs.2.1 hg hr, ownFrom_own (fun _ => _) () A C row hs.2.2 hg hr⟩
theorem parI_own {B : Nat} (hB : w.heap.size ≤ B) : OwnFrom B (ParI w l) := fun s A C row hs hg hr => by
  obtain ⟨v, os, h1, hz, h2, h3, h7, h4, h5, h6⟩ := hs
  exact ⟨v, os, h1, Nat.le_trans hz hg.size, ownFrom_blk (fun _ => _) () A C row h2 hg hr, ownFrom_own (fun _ => _) () A C row h3 hg hr, fun o ho => opm_from () A C row (h7 o ho) hg hr, ownFrom_blk (fun _ => _) () A C row h4 hg hr, ownFrom_blk (fun _ => _) () A C row h5 hg hr, ownFrom_grown hB () A C row h6 hg hr⟩
theorem parX_own {B : Nat} (hB : w.heap.size ≤ B) (c : Code) : OwnFrom B (ParX w EF l c) := fun s A C row hs hg hr => by
  obtain ⟨h1, h4, h5, h6⟩ := hs
  exact ⟨h1, ownFrom_blk (fun _ => _) () A C row h4 hg hr, ownFrom_blk (fun _ => _) () A C row h5 hg hr, ownFrom_grown hB () A C row h6 hg hr⟩
theorem opm_far {A C : World} {base r : Nat} {o : OpM} (h : o.Own A base) (hg : A.grownBy C (some r)) (hr : r < base) : o.Own C base := ⟨own_far3 h.1 hg hr, own_far3 h.2.1 hg hr, own_far3 h.2.2 hg hr⟩
theorem parI_far {A C : World} {pre : List (List UInt8)} (hs : ParI w l pre A) (hg : A.grownBy C (some (w.heap.size + 3))) : ParI w l pre C := by
  obtain ⟨v, os, h1, hz, h2, h3, h7, h4, h5, h6⟩ := hs
  exact ⟨v, os, h1, Nat.le_trans hz hg.size, h2.grown hg (by simp), own_far3 h3 hg (by omega), fun o ho => opm_far (h7 o ho) hg (by omega), h4.grown hg (by simp), h5.grown hg (by simp), grown_fresh h6 hg (by omega)⟩
theorem parX_far {A C : World} {c : Code} {pre : List (List UInt8)} (hs : ParX w EF l c pre A) (hg : A.grownBy C (some (w.heap.size + 3))) : ParX w EF l c pre C := by
  obtain ⟨h1, h4, h5, h6⟩ := hs
  exact ⟨h1, h4.grown hg (by simp), h5.grown hg (by simp), grown_fresh h6 hg (by omega)⟩
end
set_option maxRecDepth 100000 in
set_option maxHeartbeats 2000000 in
theorem parseT_is (s : ByteArray) (hs : s.size ≤ 70000) (w : World) (he : ScEnv w) (EL EF : Addr) (hEL : ErrAt w w.heap.size 3 EL) (hEF : ErrAt w w.heap.size 0 EF) : Calls Tryz.prog 9 #[.string s] w (ParseTPost w EL EF s.data.toList) := by
  obtain ⟨l, hl⟩ : ∃ l, l = s.data.toList := ⟨_, rfl⟩
  have hln : l.length = s.size := by rw [hl]; exact Array.length_toList
  obtain ⟨Q, hQ⟩ : ∃ Q, Q = ParseTPost w EL EF l := ⟨_, rfl⟩
  rw [← hl, ← hQ]
  have HQ := Lib.hid hQ
  have HL := Lib.hid (And.intro hl (And.intro hln (And.intro he (And.intro hEL hEF))))
  clear hQ hl hln he hEF
  by_cases hd : 65535 < s.size
  · have d1 : decide ((65535 : Int) < (s.size : Int)) = true := by simp; omega
    have e1 := hEL.1
    go_enter Tryz.func9, Tryz.ntmps9
    clear hEL
    go_wp2_with fail
    obtain ⟨V, hV⟩ : ∃ V, (w.alloc (.cells #[.slice none 0 0] 22)).alloc (.cells #[.nilIface] 34) = V := ⟨_, rfl⟩
    have b0 : Blk V w.heap.size 22 #[.slice none 0 0] := by rw [← hV]; exact (Blk.new w _ _).alloc _
    have b1 : Blk V (w.heap.size + 1) 34 #[.nilIface] := by
      have := Blk.new (w.alloc (.cells #[.slice none 0 0] 22)) 34 #[.nilIface]
      rw [hV] at this; simpa using this
    have g0 : w.grownBy V none := by rw [← hV]; exact grown_trans (World.grownBy_alloc w _ none) (World.grownBy_alloc _ _ none)
    rw [hV]
    have HV := Lib.hid (And.intro b0 (And.intro b1 (And.intro g0 (HL.out.2.2.2.1.grown g0 (by simp)))))
    clear hV b0 b1 g0 e1
    have c0 : V.cell? ⟨w.heap.size, 0, none⟩ = some (.slice none 0 0) := HV.out.1.cell 0
    have c1 : V.cell? ⟨w.heap.size + 1, 0, none⟩ = some .nilIface := HV.out.2.1.cell 0
    have f0 := HV.out.1.frozen 0
    have f1 := HV.out.2.1.frozen 0
    refine wp_region_held_drew (S := fun Y => Y.cell? ⟨3, 0, none⟩ = some (errV EL)) (by kernel_rfl) HV.out.2.2.2.1 (fun hHeld => ?_)
    refine wpAnyH_take (i := 0) (oi := _) (v := ?vL0) rfl (by kernel_rfl) (by kernel_rfl) (by kernel_rfl) (fun _ _ _ h => h) (Or.inl ⟨by rfl, ?hyL0⟩) (by assumption) ?restL0
    case hyL0 => (intro V hSw; (try dsimp only at hSw); go_simp) <;> with_reducible rfl
    try simp only [Act.put, List.getElem_toArray, List.getElem_cons_succ, List.getElem_cons_zero, List.setIfInBounds_toArray, List.set_cons_zero, List.set_cons_succ]
    refine wpAnyH_ready (rs := [1]) (by kernel_rfl) (by simp) ?_
    refine (AllReadyH.cons (o := _) rfl (fun K9 hK => ?_) AllReadyH.nil)
    go_simp
    refine hK.out _ _ ((World.cell?_setCell_far _ _ _ _ (by have := HL.out.2.2.2.1.2; simp only; omega)).trans HV.out.2.2.2.1) (fun hHeld => ?_)
    clear hK K9
    try simp only [Act.put, List.getElem_toArray, List.getElem_cons_succ, List.getElem_cons_zero, List.setIfInBounds_toArray, List.set_cons_zero, List.set_cons_succ]
    refine wpAnyH_ready (rs := [2]) (by kernel_rfl) (by simp) ?_
    refine (AllReadyH.cons (o := _) rfl (fun K9 hK => ?_) AllReadyH.nil)
    go_simp
    refine hK.out _ _ ((World.cell?_setCell_far _ _ _ _ (by have := HL.out.2.2.2.1.2; simp only; omega)).trans ((World.cell?_setCell_far _ _ _ _ (by have := HL.out.2.2.2.1.2; simp only; omega)).trans HV.out.2.2.2.1)) (fun hHeld => ?_)
    clear hK K9
    try simp only [Act.put, List.getElem_toArray, List.getElem_cons_succ, List.getElem_cons_zero, List.setIfInBounds_toArray, List.set_cons_zero, List.set_cons_succ]
    refine wpAnyH_done (by kernel_rfl) ?_ _
    go_wp2_with fail
    have t0 : Blk ((V.setCell ⟨w.heap.size, 0, none⟩ (.slice none 0 0)).setCell ⟨w.heap.size + 1, 0, none⟩ (errV EL)).drew w.heap.size 22 #[.slice none 0 0] := ((HV.out.1.set 0 (.slice none 0 0)).far (by simp) _).drew
    have t1 : Blk ((V.setCell ⟨w.heap.size, 0, none⟩ (.slice none 0 0)).setCell ⟨w.heap.size + 1, 0, none⟩ (errV EL)).drew (w.heap.size + 1) 34 #[errV EL] := ((HV.out.2.1.far (by simp) _).set 0 (errV EL)).drew
    refine bodyPost_ret (results_cells2 rfl _ _ _ ⟨w.heap.size, 0, none⟩ ⟨w.heap.size + 1, 0, none⟩ (.slice none 0 0) (errV EL) rfl rfl (load_opsS (t0.cell 0)) (load_err2 (t1.cell 0))) rfl ?_
    rw [HQ.out]
    exact ⟨grown_drew (grown_cell (grown_cell HV.out.2.2.1 _ (Nat.le_refl _)) _ (by omega)), .inl ⟨by have := HL.out.2.1; omega, rfl⟩⟩
  clear hEL
  have d1 : decide ((65535 : Int) < (s.size : Int)) = false := by simp; omega
  refine (callsIn_wide (n := 6)).1 ?_
  refine callsIn_of_wp_marks Tryz.func9 rfl trivial ?_ rfl
  simp only [Tryz.ntmps9, List.size_toArray, List.length_cons, List.length_nil, Nat.reduceAdd, Nat.reduceSub, Array.replicate_succ, Array.replicate_zero, List.push_toArray, List.append_toArray, List.nil_append, List.cons_append]
  gi_wp2
  refine ⟨trivial, ?_⟩
  refine (callsIn_wide.2 (lines_is _ _)).mono ?_
  rintro e w1 ⟨rfl, rfl⟩
  gi_wp2
  obtain ⟨i0, hi0, hz0, hz1, hz2⟩ := info_parts op_info
  have HI0 := Lib.hid (And.intro hi0 (And.intro hz0 (And.intro hz1 hz2)))
  clear hi0 hz0 hz1 hz2
  obtain ⟨W0, hW0⟩ : ∃ W0, ((((w.alloc (.cells #[.slice none 0 0] 22)).alloc (.cells #[.nilIface] 34)).alloc (.cells #[.slice none 0 0] 22)).alloc (.cells #[.string s] 9)) = W0 := ⟨_, rfl⟩
  have hsz : W0.heap.size = w.heap.size + 4 := by rw [← hW0]; simp
  have hg0 : w.grownBy W0 none := by rw [← hW0]; exact grown_trans (grown_trans (grown_trans (World.grownBy_alloc w _ none) (World.grownBy_alloc _ _ none)) (World.grownBy_alloc _ _ none)) (World.grownBy_alloc _ _ none)
  have b0 : Blk W0 w.heap.size 22 #[.slice none 0 0] := by rw [← hW0]; exact (((Blk.new w _ _).alloc _).alloc _).alloc _
  have b1 : Blk W0 (w.heap.size + 1) 34 #[.nilIface] := by
    have := Blk.new (w.alloc (.cells #[.slice none 0 0] 22)) 34 #[.nilIface]
    simp only [World.size_alloc] at this
    rw [← hW0]; exact (this.alloc _).alloc _
  have b2 : Blk W0 (w.heap.size + 2) 22 #[.slice none 0 0] := by
    have := Blk.new ((w.alloc (.cells #[.slice none 0 0] 22)).alloc (.cells #[.nilIface] 34)) 22 #[.slice none 0 0]
    simp only [World.size_alloc] at this
    rw [← hW0]; exact this.alloc _
  have b3 : Blk W0 (w.heap.size + 3) 9 #[.string (strB l)] := by
    have := Blk.new (((w.alloc (.cells #[.slice none 0 0] 22)).alloc (.cells #[.nilIface] 34)).alloc (.cells #[.slice none 0 0] 22)) 9 #[.string s]
    simp only [World.size_alloc] at this
    rw [← hW0, HL.out.1, strB_of]; exact this
  have hI0 : ParI w l [] W0 := ⟨.slice none 0 0, [], ⟨rfl, rfl⟩, by omega, b2, World.ownsRow_nil _ _ _ _, by simp, b0, b1, hg0⟩
  rw [hW0]
  have HLL : l.length ≤ 1000000 := by have := HL.out.2.1; omega
  have HB := Lib.hid b3
  clear hW0 b0 b1 b2 b3
  refine wpIn_rangeFunc_toldB (b := w.heap.size + 3) rfl (by omega) (gf := 31) (lb := #[.pointer (some ⟨w.heap.size + 1 + 1 + 1, 0, none⟩)]) rfl trivial (enters_of Tryz.func31 (by kernel_rfl) rfl)
    (lines_seq 5 (by omega) (w.heap.size + 3) l HLL W0 HB.out) (fun h1 h2 => KpC.trans h1 h2)
    (fun x W l o o' hl ho hc _ => KpC.put ho hc) (fun _ _ _ _ _ _ h => h) (Below.refl _ _) (fun _ => rfl) (by omega)
    (ParI w l) (ParX w EF l) (parI_own (by omega)) (parX_own (by omega)) (fun _ _ _ h g => parI_far h g) (fun _ _ _ _ h g => parX_far h g) hI0
    (fun pre x a' W => a' = { tmps := #[.string s, undef, .pointer (some ⟨w.heap.size, 0, none⟩), .pointer (some ⟨w.heap.size + 1, 0, none⟩), .pointer (some ⟨w.heap.size + 1 + 1, 0, none⟩), .string (strB x), undef, undef, undef, undef, .string s, .int .i64 (s.size : Int), .bool false, undef, .string s, .func (.func 31) #[] #[.pointer (some ⟨w.heap.size + 1 + 1 + 1, 0, none⟩)], .string (strB x), undef, undef, undef, undef, undef, undef, undef, undef, undef, undef, undef, undef, undef, undef, undef, undef, undef, undef, undef, undef, undef, undef], defers := [] } ∧ (linesOf (splitP 10 l))[pre.length]? = some x)
    (fun pre x a' => ownFrom_pure _) ?assign ?body ?done ?stop
  case assign =>
    rintro l0 pre x W K hI hx hK
    have HK := Lib.hid (hK _ W ((keeps_grown (World.grownBy.refl W none)).from _) (KpC.grown (World.grownBy.refl W none) (by simp)) hI ⟨rfl, hx⟩)
    clear hK hI hx
    simp only [strE]
    gi_wp2
    exact HK.out
  case body =>
    rintro l0 pre x a' W hl0 hl1 ⟨v, os, ⟨h1, h2⟩, hzW, q2, q3, q7, q0, q1, qg⟩ ⟨rfl, hx⟩
    obtain ⟨A, c, rfl⟩ := own_slice _ q3
    have hxm : x ∈ linesOf (splitP 10 l) := List.mem_of_getElem? hx
    have hxl : x.length ≤ 80000 := by
      obtain ⟨p, hp, hle⟩ := linesOf_mem _ _ hxm
      have := piece_len hp
      have := HL.out.2.1
      omega
    have hlen := allL_len _ _ h2
    rw [List.length_map] at hlen
    have hz : (strB x).size = x.length := strB_size x
    have hpl : pre.length ≤ 100000 := by
      have e1 := congrArg List.length h1
      rw [List.length_take] at e1
      have := linesOf_len (splitP 10 l)
      have := pieces_len 10 l
      have := HL.out.2.1
      omega
    obtain ⟨T, hT⟩ : ∃ T, T = strB (Lib.trimSuffix x [10]) := ⟨_, rfl⟩
    obtain ⟨En, hEn⟩ : ∃ En, En = Lib.hasSuffix x [10] := ⟨_, rfl⟩
    have HC := Lib.hid (show Calls Tryz.prog 17 #[.string (strB x), .string ⟨#[10]⟩] W fun e w' => e = .returned (.tuple #[.string T, .bool En]) ∧ w' = W by
      have := cut_is (strB x) W (by omega)
      rw [strB_list] at this
      rw [hT, hEn]; exact this)
    have hTs : T.size ≤ 90000 := by
      rw [hT, strB_size]
      unfold Lib.trimSuffix
      split
      · rw [List.length_take]; omega
      · omega
    have HP := Lib.hid (show Calls Tryz.prog 18 #[.string T] W (ParsePost W (Lib.trimSuffix x [10])) by
      have := parse_is T hTs W (HL.out.2.2.1.grown qg)
      rwa [hT, strB_list, ← hT] at this)
    obtain ⟨n, hn⟩ : ∃ n, n = os.length := ⟨_, rfl⟩
    have hnb : n ≤ 100000 := by omega
    have hpre : linesOf (splitP 10 l) = pre ++ x :: (linesOf (splitP 10 l)).drop (pre.length + 1) := by
      obtain ⟨hlt, e⟩ := List.getElem?_eq_some_iff.1 hx
      conv => lhs; rw [← List.take_append_drop pre.length (linesOf (splitP 10 l))]
      rw [← h1, List.drop_eq_getElem_cons hlt, e]
    have hpre2 : pre ++ [x] = (linesOf (splitP 10 l)).take (pre ++ [x]).length := by
      rw [List.length_append, List.length_singleton, List.take_add_one, ← h1, hx]; rfl
    rw [← hn] at q3 q2
    have HPR := Lib.hid (And.intro h2 (And.intro hn (And.intro hpre (And.intro hpre2 hEn))))
    obtain ⟨S, hS⟩ : ∃ S, S = strB x := ⟨_, rfl⟩
    rw [← hS] at HC
    rw [← hS]
    have HK := Lib.hid (And.intro q0 (And.intro q1 (And.intro q2 (And.intro q3 (And.intro q7 qg)))))
    clear h1 h2 hlen hn hpre hpre2 hz hS hx hxm hxl q0 q1 q2 q3 q7 qg hT hTs hEn hpl
    gi_wp2
    refine ⟨trivial, (CallsIn.inRound l0 (callsIn_wide.2 HC.out)).mono ?_⟩
    rintro e w2 ⟨rfl, rfl⟩
    gi_wp2
    refine ⟨trivial, (CallsIn.inRound l0 (callsIn_wide.2 HP.out)).mono ?_⟩
    rintro e w3 ⟨k3, hpost⟩
    obtain ⟨q0, q1, q2, q3, q7, qg⟩ := HK.out
    have r0 := q0.grown k3 (by simp)
    have r1 := q1.grown k3 (by simp)
    have r2 := q2.grown k3 (by simp)
    have r3 := own_gr q3 k3
    have r7 : ∀ o ∈ os, o.Own w3 (w.heap.size + 4) := fun o ho => (q7 o ho).grown k3
    have rg := grown_trans qg k3
    have HR := Lib.hid (And.intro r0 (And.intro r1 (And.intro r2 (And.intro r3 (And.intro r7 rg)))))
    have HG := Lib.hid k3
    have hszW := Nat.le_trans hzW k3.size
    clear q0 q1 q2 q3 q7 qg r0 r1 r2 r3 r7 rg k3
    -- a round that says no
    have hfail : ∀ (cs : Array Value), parseLs (splitP 10 l) = none → ∃ V0 V, V0 = w3.alloc (.cells cs 29) ∧ V = ((V0.setCell ⟨w.heap.size, 0, none⟩ (.slice none 0 0)).setCell ⟨w.heap.size + 1, 0, none⟩ (errV EF)).drew ∧ Blk V0 w.heap.size 22 #[.slice none 0 0] ∧ Blk V0 (w.heap.size + 1) 34 #[.nilIface] ∧ ErrAt V0 w.heap.size 0 EF ∧ KeepsFrom W0.heap.size w2 V ∧ ParX w EF l .ret (pre ++ [x]) V := fun cs hno => by
      obtain ⟨r0, r1, r2, r3, r7, rg⟩ := HR.out
      have ga := World.grownBy_alloc w3 (.cells cs 29) none
      refine ⟨_, _, rfl, rfl, r0.grown ga (by simp), r1.grown ga (by simp), HL.out.2.2.2.2.grown (grown_trans rg ga) (by simp), ?_, ⟨rfl, hno⟩, ?_, ?_, ?_⟩
      · exact (((((keeps_grown HG.out).trans (KeepsOthers.alloc _ _)).trans (KeepsOthers.setCell _ _ _)).trans (KeepsOthers.setCell _ _ _)).trans (keeps_grown (grown_drew (World.grownBy.refl _ none)))).from _
      · exact (((r0.grown ga (by simp)).set 0 (.slice none 0 0)).far (by simp) _).drew
      · exact (((r1.grown ga (by simp)).far (by simp) _).set 0 (errV EF)).drew
      · exact grown_drew (grown_cell (grown_cell (grown_trans rg ga) _ (Nat.le_refl _)) _ (by omega))
    have HF := Lib.hid hfail
    clear hfail
    cases hpl : parseL (Lib.trimSuffix x [10]) with
    | none =>
      rw [hpl] at hpost
      have hpost : e = .returned (.tuple #[.agg #[.int .i64 0, .int .i64 0, .int .i64 0, .slice none 0 0, .slice none 0 0, .slice none 0 0], .bool false]) := hpost
      subst hpost
      have HNo := Lib.hid (show parseLs (splitP 10 l) = none by
        rw [parseLs_lines, HPR.out.2.2.1, allL_app _ _ _ HPR.out.1, allL, lineP, hpl]
        split <;> rfl)
      clear hpl
      gi_upto_region 9 with (fail)
      obtain ⟨V0, V, hV0, hV, b0, b1, eF, hkp, hpx⟩ := HF.out #[.int .i64 0, .int .i64 0, .int .i64 0, .slice none 0 0, .slice none 0 0, .slice none 0 0] HNo.out
      rw [← hV0]
      refine wpIn_normal ?_
      refine wpIn_region_held_round (S := fun Y => Y.cell? ⟨0, 0, none⟩ = some (errV EF)) (by kernel_rfl) (by kernel_rfl) (by rintro ⟨_, _, h, _⟩; cases h) eF.1 (fun hHeld => ?_)
      have c0 : V0.cell? ⟨w.heap.size, 0, none⟩ = some (.slice none 0 0) := b0.cell 0
      have c1 : V0.cell? ⟨w.heap.size + 1, 0, none⟩ = some .nilIface := b1.cell 0
      have f0 := b0.frozen 0
      have f1 := b1.frozen 0
      have HV := Lib.hid (And.intro hV (And.intro hkp (And.intro hpx eF)))
      clear hV0 hV b0 b1 eF hkp hpx
      refine wpAnyH_take (i := 0) (oi := _) (v := ?vA0) rfl (by kernel_rfl) (by kernel_rfl) (by kernel_rfl) (fun _ _ _ h => by cases h.1) (Or.inl ⟨by rfl, ?hyA0⟩) (by assumption) ?restA0
      case hyA0 => (intro V hSw; (try dsimp only at hSw); go_simp) <;> with_reducible rfl
      try simp only [Act.put, List.getElem_toArray, List.getElem_cons_succ, List.getElem_cons_zero, List.setIfInBounds_toArray, List.set_cons_zero, List.set_cons_succ]
      refine wpAnyH_ready (rs := [1]) (by kernel_rfl) (by simp) ?_
      refine (AllReadyH.cons (o := _) rfl (fun K9 hK => ?_) AllReadyH.nil)
      go_simp
      refine hK.out _ _ ((World.cell?_setCell_far _ _ _ _ (by have := HV.out.2.2.2.2; simp only; omega)).trans HV.out.2.2.2.1) (fun hHeld => ?_)
      clear hK K9
      try simp only [Act.put, List.getElem_toArray, List.getElem_cons_succ, List.getElem_cons_zero, List.setIfInBounds_toArray, List.set_cons_zero, List.set_cons_succ]
      refine wpAnyH_ready (rs := [2]) (by kernel_rfl) (by simp) ?_
      refine (AllReadyH.cons (o := _) rfl (fun K9 hK => ?_) AllReadyH.nil)
      go_simp
      refine hK.out _ _ ((World.cell?_setCell_far _ _ _ _ (by have := HV.out.2.2.2.2; simp only; omega)).trans ((World.cell?_setCell_far _ _ _ _ (by have := HV.out.2.2.2.2; simp only; omega)).trans HV.out.2.2.2.1)) (fun hHeld => ?_)
      clear hK K9
      try simp only [Act.put, List.getElem_toArray, List.getElem_cons_succ, List.getElem_cons_zero, List.setIfInBounds_toArray, List.set_cons_zero, List.set_cons_succ]
      refine wpAnyH_done (by kernel_rfl) ?_ _
      refine ⟨rfl, ?_⟩
      gi_wp2
      rw [← HV.out.1]
      exact ⟨HV.out.2.1, HV.out.2.2.1⟩
    | some ov =>
      rw [hpl] at hpost
      obtain ⟨o, rfl, he9, hown⟩ := hpost
      have he9 : e = .returned (.tuple #[.agg #[.int .i64 o.v.kind, .int .i64 o.v.node, .int .i64 o.v.n, .slice o.A1 o.v.set.length o.c1, .slice o.A2 o.v.keep.length o.c2, .slice o.A3 o.v.data.length o.c3], .bool true]) := he9
      subst he9
      cases En with
      | false =>
        have HNo := Lib.hid (show parseLs (splitP 10 l) = none by
          rw [parseLs_lines, HPR.out.2.2.1, allL_app _ _ _ HPR.out.1, allL, lineP, ← HPR.out.2.2.2.2, if_neg (by simp)]; rfl)
        clear hpl
        gi_upto_region 9 with (fail)
        obtain ⟨V0, V, hV0, hV, b0, b1, eF, hkp, hpx⟩ := HF.out #[.int .i64 o.v.kind, .int .i64 o.v.node, .int .i64 o.v.n, .slice o.A1 o.v.set.length o.c1, .slice o.A2 o.v.keep.length o.c2, .slice o.A3 o.v.data.length o.c3] HNo.out
        rw [← hV0]
        refine wpIn_normal ?_
        refine wpIn_region_held_round (S := fun Y => Y.cell? ⟨0, 0, none⟩ = some (errV EF)) (by kernel_rfl) (by kernel_rfl) (by rintro ⟨_, _, h, _⟩; cases h) eF.1 (fun hHeld => ?_)
        have c0 : V0.cell? ⟨w.heap.size, 0, none⟩ = some (.slice none 0 0) := b0.cell 0
        have c1 : V0.cell? ⟨w.heap.size + 1, 0, none⟩ = some .nilIface := b1.cell 0
        have f0 := b0.frozen 0
        have f1 := b1.frozen 0
        have HV := Lib.hid (And.intro hV (And.intro hkp (And.intro hpx eF)))
        clear hV0 hV b0 b1 eF hkp hpx
        refine wpAnyH_take (i := 0) (oi := _) (v := ?vB0) rfl (by kernel_rfl) (by kernel_rfl) (by kernel_rfl) (fun _ _ _ h => by cases h.1) (Or.inl ⟨by rfl, ?hyB0⟩) (by assumption) ?restB0
        case hyB0 => (intro V hSw; (try dsimp only at hSw); go_simp) <;> with_reducible rfl
        try simp only [Act.put, List.getElem_toArray, List.getElem_cons_succ, List.getElem_cons_zero, List.setIfInBounds_toArray, List.set_cons_zero, List.set_cons_succ]
        refine wpAnyH_ready (rs := [1]) (by kernel_rfl) (by simp) ?_
        refine (AllReadyH.cons (o := _) rfl (fun K9 hK => ?_) AllReadyH.nil)
        go_simp
        refine hK.out _ _ ((World.cell?_setCell_far _ _ _ _ (by have := HV.out.2.2.2.2; simp only; omega)).trans HV.out.2.2.2.1) (fun hHeld => ?_)
        clear hK K9
        try simp only [Act.put, List.getElem_toArray, List.getElem_cons_succ, List.getElem_cons_zero, List.setIfInBounds_toArray, List.set_cons_zero, List.set_cons_succ]
        refine wpAnyH_ready (rs := [2]) (by kernel_rfl) (by simp) ?_
        refine (AllReadyH.cons (o := _) rfl (fun K9 hK => ?_) AllReadyH.nil)
        go_simp
        refine hK.out _ _ ((World.cell?_setCell_far _ _ _ _ (by have := HV.out.2.2.2.2; simp only; omega)).trans ((World.cell?_setCell_far _ _ _ _ (by have := HV.out.2.2.2.2; simp only; omega)).trans HV.out.2.2.2.1)) (fun hHeld => ?_)
        clear hK K9
        try simp only [Act.put, List.getElem_toArray, List.getElem_cons_succ, List.getElem_cons_zero, List.setIfInBounds_toArray, List.set_cons_zero, List.set_cons_succ]
        refine wpAnyH_done (by kernel_rfl) ?_ _
        refine ⟨rfl, ?_⟩
        gi_wp2
        rw [← HV.out.1]
        exact ⟨HV.out.2.1, HV.out.2.2.1⟩
      | true =>
        have HNo := Lib.hid (show allL (pre ++ [x]) = some ((os ++ [o]).map OpM.v) by
          rw [allL_app _ _ _ HPR.out.1, allL, lineP, ← HPR.out.2.2.2.2, if_pos rfl, hpl, List.map_append, List.map_singleton]; rfl)
        clear hpl HF
        obtain ⟨oc, hoc⟩ : ∃ oc : Array Value, oc = o.val := ⟨_, rfl⟩
        have hbk : ∀ g, (Value.slice A n c).ownBlock = some g → w.heap.size + 4 ≤ g := fun g e => by
          obtain ⟨a, e1, e2⟩ := own_at e
          have := own_fromS HR.out.2.2.2.1 a e1
          omega
        have HBK := Lib.hid hbk
        have hafter : ∀ W3, ((w3.alloc (.cells o.val 29)).alloc (.cells o.val 29)).grownBy W3 (Value.slice A n c).ownBlock → W3.cell? ⟨w.heap.size + 1 + 1, 0, none⟩ = some (.slice A n c) ∧ W3.frozen? ⟨w.heap.size + 1 + 1, 0, none⟩ = false := fun W3 h => by
          have hb3 : Blk W3 (w.heap.size + 2) 22 #[.slice A n c] := ((HR.out.2.2.1.alloc _).alloc _).grown h (fun e => by
            have := HBK.out _ e.symm
            omega)
          exact ⟨hb3.cell 0, hb3.frozen 0⟩
        have HA9 := Lib.hid hafter
        have HO := Lib.hid ((HR.out.2.2.2.1.alloc (.cells o.val 29)).alloc (.cells o.val 29))
        have c2 : ∀ ob, (w3.alloc ob).cell? ⟨w.heap.size + 1 + 1, 0, none⟩ = some (.slice A n c) := fun ob => (HR.out.2.2.1.alloc ob).cell 0
        have HOW := Lib.hid hown
        clear hafter hbk hoc hown
        gi_wp2_with (gi_at_builtin; refine wpListIn_append_own _ rfl _ _ 22 rfl (w.heap.size + 4) 29 i0 _ 6 96 Tryz.underlying22 HI0.out.1 HI0.out.2.1 HI0.out.2.2.1 HI0.out.2.2.2 rfl (by decide) (.slice A n c) n _ rfl HO.out ⟨w3.heap.size + 1, 0, none⟩ 1 1 o.val.toList rfl rfl (fun j u hu => by rw [addr_zero_addS]; exact (show ((w3.alloc (.cells o.val 29)).alloc (.cells o.val 29)).cell? ⟨w3.heap.size + 1, j, none⟩ = some u from by have hq := (Blk.new (w3.alloc (.cells o.val 29)) 29 o.val).cell j; rw [World.size_alloc] at hq; rw [hq, ← Array.getElem?_toList]; exact hu)) (fun u hu => opm_one o u hu) (by unfold maxLen; omega) (by omega) (by simp only [World.size_alloc]; omega) ?_; intro v' w5 hown5 hg5 hnil5; obtain ⟨A', c', rfl⟩ := own_slice _ hown5; have q3 := (HA9.out w5 hg5).1; have q4 := (HA9.out w5 hg5).2)
        obtain ⟨r0, r1, r2, r3, r7, rg⟩ := HR.out
        have ga := grown_trans (World.grownBy_alloc w3 (.cells o.val 29) none) (World.grownBy_alloc (w3.alloc (.cells o.val 29)) (.cells o.val 29) none)
        have hb := HBK.out
        have s0 := (r0.grown ga (by simp)).grown hg5 (fun e => by have := hb _ e.symm; omega)
        have s1 := (r1.grown ga (by simp)).grown hg5 (fun e => by have := hb _ e.symm; omega)
        have s2 := (r2.grown ga (by simp)).grown hg5 (fun e => by have := hb _ e.symm; omega)
        have sg : w.grownBy w5 none := by
          have h1 := grown_trans rg ga
          cases hob : (Value.slice A n c).ownBlock with
          | none => rw [hob] at hg5; exact grown_trans h1 hg5
          | some g => rw [hob] at hg5; have := hb g hob; exact grown_fresh h1 hg5 (by omega)
        have hopm : ∀ (o' : OpM) (base : Nat), o'.Own w3 base → o'.Own w5 base := fun o' base h => by
          have h1 := h.grown ga
          refine ⟨own_other h1.1 (by decide) HO.out hg5, own_other h1.2.1 (by decide) HO.out hg5, own_other h1.2.2 (by decide) HO.out hg5⟩
        have hlen := HPR.out.2.1
        have gz := gset w5 (w.heap.size + 2) 0 (.slice A' (n + 1) c')
        refine ⟨((((keeps_grown HG.out).trans ((KeepsOthers.alloc _ _).trans (KeepsOthers.alloc _ _))).trans (keepsOwn HO.out hg5)).trans (KeepsOthers.setCell _ _ _)).from _, ?_, ?_⟩
        · refine (KpC.grown HG.out (by simp)).trans ((KpC.grown ga (by simp)).trans ((KpC.grown hg5 (fun r e => by have := hb r e; omega)).trans (KpC.grown (gset _ _ _ _) (fun r e => by have := Option.some.inj e; omega))))
        · refine ⟨.slice A' (n + 1) c', os ++ [o], ⟨HPR.out.2.2.2.1, HNo.out⟩, ?_, s2.set 0 _, ?_, ?_, s0.far (by simp only; omega) _, s1.far (by simp only; omega) _, grown_cell sg _ (by omega)⟩
          · simp only [World.setCell]
            have := hg5.size
            simp at this ⊢
            omega
          · have h9 := own_far3 hown5 gz (by omega)
            rw [List.length_append, List.length_singleton, ← hlen, opsC_snoc]
            exact h9
          · intro o' ho'
            rcases List.mem_append.1 ho' with ho' | ho'
            · exact opm_far (hopm _ _ (r7 o' ho')) gz (by omega)
            · obtain rfl := List.mem_singleton.1 ho'
              exact opm_far ((hopm _ _ HOW.out).mono hzW) gz (by omega)
  case done =>
    rintro Dd xs W hD hS ⟨v, os, ⟨h1, h2⟩, hzW, q2, q3, q7, q0, q1, qg⟩ hK
    obtain ⟨A, c, rfl⟩ := own_slice _ q3
    have hp : parseLs (splitP 10 l) = some (os.map OpM.v) := by
      rw [parseLs_lines, ← hS]; exact h2
    obtain ⟨n, hn⟩ : ∃ n, n = os.length := ⟨_, rfl⟩
    rw [← hn] at q2 q3
    have c0 : W.cell? ⟨w.heap.size, 0, none⟩ = some (.slice none 0 0) := q0.cell 0
    have c1 : W.cell? ⟨w.heap.size + 1, 0, none⟩ = some .nilIface := q1.cell 0
    have c2 : W.cell? ⟨w.heap.size + 1 + 1, 0, none⟩ = some (.slice A n c) := q2.cell 0
    have f0 := q0.frozen 0
    have f1 := q1.frozen 0
    have HB := Lib.hid (And.intro hp (And.intro hn (And.intro q3 (And.intro q0 (And.intro q1 (And.intro qg (And.intro hK (And.intro hD q7))))))))
    clear hp hn q0 q1 q2 q3 qg hK hD h1 h2 hS q7
    gi_wp2
    obtain ⟨hp, hn, q3, q0, q1, qg, hK, hD, q7⟩ := HB.out
    have g1 := gset W w.heap.size 0 (.slice A n c)
    have g2 := gset (W.setCell ⟨w.heap.size, 0, none⟩ (.slice A n c)) (w.heap.size + 1) 0 .nilIface
    have s0 : Blk ((W.setCell ⟨w.heap.size, 0, none⟩ (.slice A n c)).setCell ⟨w.heap.size + 1, 0, none⟩ .nilIface) w.heap.size 22 #[.slice A n c] := (q0.set 0 (.slice A n c)).far (by simp) _
    have s1 : Blk ((W.setCell ⟨w.heap.size, 0, none⟩ (.slice A n c)).setCell ⟨w.heap.size + 1, 0, none⟩ .nilIface) (w.heap.size + 1) 34 #[.nilIface] := (q1.far (by simp) _).set 0 .nilIface
    have s3 := own_far3 (own_far3 q3 g1 (by omega)) g2 (by omega)
    have s7 : ∀ o ∈ os, o.Own ((W.setCell ⟨w.heap.size, 0, none⟩ (.slice A n c)).setCell ⟨w.heap.size + 1, 0, none⟩ .nilIface) (w.heap.size + 4) := fun o ho => opm_far (opm_far (q7 o ho) g1 (by omega)) g2 (by omega)
    have sg : w.grownBy ((W.setCell ⟨w.heap.size, 0, none⟩ (.slice A n c)).setCell ⟨w.heap.size + 1, 0, none⟩ .nilIface) none := grown_cell (grown_cell qg _ (Nat.le_refl _)) _ (by omega)
    have hK2 : ((W.setCell ⟨w.heap.size, 0, none⟩ (.slice A n c)).setCell ⟨w.heap.size + 1, 0, none⟩ .nilIface).heap[Dd]? = some (.deferred (some [])) := by
      have hlt := (Array.getElem?_eq_some_iff.1 hK).1
      rw [g2.block Dd (by simpa [World.setCell] using hlt) (by intro e; have := Option.some.inj e; omega), g1.block Dd hlt (by intro e; have := Option.some.inj e; omega)]
      exact hK
    generalize (W.setCell ⟨w.heap.size, 0, none⟩ (.slice A n c)).setCell ⟨w.heap.size + 1, 0, none⟩ .nilIface = W5 at *
    have gp := grownBy_putObj' W5 Dd (.deferred none)
    refine ⟨by simp, .inl ⟨_, _, rfl, run_takeDeferred hK2, ?_⟩⟩
    have t0 := s0.grown gp (by intro e; have := Option.some.inj e; omega)
    have t1 := s1.grown gp (by intro e; have := Option.some.inj e; omega)
    refine ⟨_, results_cells2 rfl _ _ _ ⟨w.heap.size, 0, none⟩ ⟨w.heap.size + 1, 0, none⟩ (.slice A n c) .nilIface rfl rfl (load_opsS (t0.cell 0)) (load_nilS (t1.cell 0)), ?_⟩
    rw [HQ.out]
    have hcs := cells_same gp (fun r e => by cases e; exact ⟨_, hK2, rfl⟩)
    refine ⟨grown_fresh sg gp (by omega), .inr (.inr ⟨by have := HL.out.2.1; omega, os, hp, A, c, by rw [hn], ?_, fun o ho => ?_⟩)⟩
    · rw [← hn]; exact own_mono (own_same s3 hcs) (by omega)
    · exact OpM.Own.mono ⟨own_same (s7 o ho).1 hcs, own_same (s7 o ho).2.1 hcs, own_same (s7 o ho).2.2 hcs⟩ (by omega)
  case stop =>
    rintro Dd c pre W hD hk ⟨⟨rfl, hno⟩, q0, q1, qg⟩ hK
    gi_wp2
    have gp := grownBy_putObj' W Dd (.deferred none)
    refine ⟨by simp, .inl ⟨_, _, rfl, run_takeDeferred hK, ?_⟩⟩
    have t0 := q0.grown gp (by intro e; have := Option.some.inj e; omega)
    have t1 := q1.grown gp (by intro e; have := Option.some.inj e; omega)
    refine ⟨_, results_cells2 rfl _ _ _ ⟨w.heap.size, 0, none⟩ ⟨w.heap.size + 1, 0, none⟩ (.slice none 0 0) (errV EF) rfl rfl (load_opsS (t0.cell 0)) (load_err2 (t1.cell 0)), ?_⟩
    rw [HQ.out]
    exact ⟨grown_fresh qg gp (by omega), .inr (.inl ⟨by have := HL.out.2.1; omega, hno, rfl⟩)⟩
end Go.Proofs.YtonkdcbmmdhjgaaGreatDoor
