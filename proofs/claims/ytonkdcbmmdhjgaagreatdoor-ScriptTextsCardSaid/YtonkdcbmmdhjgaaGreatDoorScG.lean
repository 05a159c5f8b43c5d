/-
  strings.Lines as an iterator; both iterators' contracts.
-/
import Derived.Test.YtonkdcbmmdhjgaaGreatDoorScF
import Derived.Sort.CutIn
import Derived.Deep.DeepCutAuto
namespace Go.Proofs.YtonkdcbmmdhjgaaGreatDoor
open Go.RowKit Go.Shelf

attribute [local go_sem] Oper.semAt_some

/-- The lines of a text: each piece but the last one with its end; the last one if there is something of it. -/
def linesOf : List (List UInt8) → List (List UInt8)
  | [] => []
  | [q] => if q = [] then [] else [q]
  | p :: q :: r => (p ++ [10]) :: linesOf (q :: r)
theorem linesOf_cons {p : List UInt8} {ps : List (List UInt8)} (h : ps ≠ []) : linesOf (p :: ps) = (p ++ [10]) :: linesOf ps := by
  cases ps with
  | nil => exact absurd rfl h
  | cons q r => rfl
set_option maxRecDepth 100000 in
set_option maxHeartbeats 2000000 in
theorem lines1_in (m l0 B : Nat) (l : List UInt8) (hl : l.length ≤ 1000000) (J Jx : List (List UInt8) → World → Prop) (hm : 2 ≤ m)
    (hJ : ∀ s A B', J s A → A.grownBy B' none → J s B') (hJb : ∀ pre A B', J pre A → A.grownBy B' (some B) → J pre B')
    (hY : ∀ pre x V, J pre V → (linesOf (splitP 10 l))[pre.length]? = some x → YieldAt Fence.wide (m - 1) Tryz.prog l0 #[.string (strB x)] V fun e V' =>
      (e = .returned (.bool true) ∧ J (pre ++ [x]) V' ∧ KpC B (B + 1) x V V') ∨ (e = .returned (.bool false) ∧ Jx (pre ++ [x]) V'))
    (W : World) (b0 : Blk W B 9 #[.string (strB l)]) (h0 : J [] W) :
    CallsIn Fence.wide m Tryz.prog 31 #[.func (.yield l0) #[] #[], .pointer (some ⟨B, 0, none⟩)] W fun e W' => (∃ v, e = .returned v) ∧
      ((∃ xs, xs = linesOf (splitP 10 l) ∧ J xs W') ∨ (∃ pre, True ∧ Jx pre W')) := by
  have J0 := Lib.hid (And.intro h0 b0)
  have HJ := Lib.hid (And.intro hJ hJb)
  have HY := Lib.hid hY
  have HLL := Lib.hid hl
  clear hl h0 b0 hJ hJb hY
  refine callsIn_of_wp Tryz.func31 rfl trivial ?_ rfl
  simp only [Tryz.ntmps31, List.size_toArray, List.length_cons, List.length_nil, Nat.reduceAdd, Nat.reduceSub, Array.replicate_succ, Array.replicate_zero, List.push_toArray, List.append_toArray, List.nil_append, List.cons_append]
  gi_wp2
  gi_loopw [4] (fun _ wr => ∃ (pre : List (List UInt8)) (r : List UInt8), (linesOf (splitP 10 l) = pre ++ linesOf (splitP 10 r) ∧ r.length ≤ 1000000) ∧ J pre wr ∧ Blk wr B 9 #[.string (strB r)]) (fun _ wr => strLeft B wr)
  case atStart => exact ⟨[], l, ⟨rfl, HLL.out⟩, J0.out⟩
  case round =>
    obtain ⟨pre, r, ⟨hsp, hrl⟩, hJs, q0⟩ := hrel
    have c1 : wr.cell? ⟨B, 0, none⟩ = some (.string (strB r)) := q0.cell 0
    have f1 : wr.frozen? ⟨B, 0, none⟩ = false := q0.frozen 0
    obtain ⟨z, hz⟩ : ∃ z, z = strB r := ⟨_, rfl⟩
    have hzl : z.data.toList = r := by rw [hz, strB_list]
    have hzz : z.size = r.length := by rw [hz, strB_size]
    rw [← hz] at c1
    by_cases hr0 : r = []
    · have hz0 : ¬ 0 < z.size := by rw [hzz, hr0]; simp
      have d1 : decide (0 < z.size) = false := by simpa using hz0
      have HH := Lib.hid (show J (linesOf (splitP 10 l)) wr by
        have : linesOf (splitP 10 ([] : List UInt8)) = [] := rfl
        rw [hsp, hr0, this, List.append_nil]; exact hJs)
      clear hsp hJs q0 hz hzl hr0 hzz f1
      gi_wp2
      go_end0
      exact ⟨⟨_, rfl⟩, .inl ⟨_, rfl, HH.out⟩⟩
    have hpos : 0 < r.length := List.length_pos_iff.2 hr0
    have hz0 : 0 < z.size := by rw [hzz]; exact hpos
    have d1 : decide (0 < z.size) = true := by simpa using hz0
    by_cases hj : 0 ≤ Lib.indexByte r 10
    · obtain ⟨j, hj⟩ : ∃ j : Nat, Lib.indexByte r 10 = (j : Int) := ⟨(Lib.indexByte r 10).toNat, by omega⟩
      obtain ⟨hjl, hsplit, hno⟩ := ix_yes hj
      have HI := Lib.hid (show Calls Tryz.prog 32 #[.string z, .int .u8 10] wr fun e w' => e = .returned (.int .i64 (j : Int)) ∧ w' = wr by have := ixb_is z 10 wr; rw [hzl] at this; rw [show ((10 : Int).toNat.toUInt8) = (10 : UInt8) from rfl, hj] at this; exact this)
      obtain ⟨x, hx⟩ : ∃ x, x = strB (r.take (j + 1)) := ⟨_, rfl⟩
      obtain ⟨y, hy⟩ : ∃ y, y = strB (r.drop (j + 1)) := ⟨_, rfl⟩
      have s1 : ∀ W, Sem.run Tryz.prog (Instr.slice 9 (.string z) none (some (.int .i64 ((j : Int) + 1))) none) W = .ok (.string x) W := fun W => by
        have := slice_head z (j + 1) (by omega) W; rw [hzl, ← hx] at this; exact this
      have s2 : ∀ W, Sem.run Tryz.prog (Instr.slice 9 (.string z) (some (.int .i64 ((j : Int) + 1))) none none) W = .ok (.string y) W := fun W => by
        have := slice_tail z (j + 1) (by omega) W; rw [hzl, ← hy] at this; exact this
      have htk : r.take j ++ [10] = r.take (j + 1) := by
        rw [List.take_add_one]
        congr 1
        have := (List.getElem?_eq_getElem hjl)
        have e : r[j]? = some 10 := (Lib.indexByte_some hj).1
        rw [e]; rfl
      have hget : linesOf (splitP 10 l) = (pre ++ [r.take (j + 1)]) ++ linesOf (splitP 10 (r.drop (j + 1))) := by
        rw [hsp]; conv => lhs; rw [hsplit, splitP_hit hno, linesOf_cons (splitP_ne _ _), htk]
        simp
      have hq1 : J pre (wr.setCell ⟨B, 0, none⟩ (.string y)).drew ∧ Blk (wr.setCell ⟨B, 0, none⟩ (.string y)).drew B 9 #[.string y] := ⟨HJ.out.1 _ _ _ (HJ.out.2 _ _ _ hJs (gset _ _ _ _)) (grown_drew (World.grownBy.refl _ none)), (q0.set 0 (.string y)).drew⟩
      have hyy := HY.out pre (r.take (j + 1)) _ hq1.1 (by rw [hget, List.append_assoc, List.getElem?_append_right (Nat.le_refl _)]; simp)
      rw [← hx] at hyy
      obtain ⟨fn, tmps, assign, body, hy2, hR⟩ := hyy
      have d2 : decide ((0 : Int) ≤ (j : Int)) = true := by simp
      have hjb : j < 1000000 := by omega
      have hw : IntKind.i64.wrap ((j : Int) + 1) = (j : Int) + 1 := by rw [IntKind.wrap_i64]; omega
      have HH := Lib.hid (And.intro hget (And.intro hy (And.intro hz (And.intro hzz (And.intro hjl hrl)))))
      have HQ := Lib.hid q0
      have HQ1 := Lib.hid hq1
      have HRR := Lib.hid hR
      clear hget hy hzz hx hno hsplit hJs hsp q0 hR hz hzl hj hjl hrl hr0 hpos hq1 htk
      gi_wp2
      refine ⟨trivial, (fun h => by cases h), ?_⟩
      refine (callsIn_wide.2 HI.out).mono ?_
      rintro e w1 ⟨rfl, rfl⟩
      gi_upto_region 4 with (fail)
      refine wpIn_normal ?_
      refine wpIn_region_held_wide (S := fun _ => True) (by kernel_rfl) (by kernel_rfl) (by rintro ⟨_, _, h, _⟩; cases h) trivial (fun hHeld => ?_)
      refine wpAnyH_take (i := 1) (oi := _) (v := ?va1) rfl (by kernel_rfl) (by kernel_rfl) (by kernel_rfl) (fun _ _ _ h => by cases h.1) (Or.inl ⟨by rfl, ?hya1⟩) (by assumption) ?resta1
      case hya1 => (intro V hSw; (try dsimp only at hSw); go_simp) <;> with_reducible rfl
      try simp only [Act.put, List.getElem_toArray, List.getElem_cons_succ, List.getElem_cons_zero, List.setIfInBounds_toArray, List.set_cons_zero, List.set_cons_succ]
      refine wpAnyH_take (i := 2) (oi := _) (v := ?va2) rfl (by kernel_rfl) (by kernel_rfl) (by kernel_rfl) (fun _ _ _ h => by cases h.1) (Or.inl ⟨by rfl, ?hya2⟩) (by assumption) ?resta2
      case hya2 => (intro V hSw; (try dsimp only at hSw); go_simp) <;> with_reducible rfl
      try simp only [Act.put, List.getElem_toArray, List.getElem_cons_succ, List.getElem_cons_zero, List.setIfInBounds_toArray, List.set_cons_zero, List.set_cons_succ]
      refine wpAnyH_take (i := 5) (oi := _) (v := ?va5) rfl (by kernel_rfl) (by kernel_rfl) (by kernel_rfl) (fun _ _ _ h => by cases h.1) (Or.inl ⟨by rfl, ?hya5⟩) (by assumption) ?resta5
      case hya5 => (intro V hSw; (try dsimp only at hSw); go_simp) <;> with_reducible rfl
      try simp only [Act.put, List.getElem_toArray, List.getElem_cons_succ, List.getElem_cons_zero, List.setIfInBounds_toArray, List.set_cons_zero, List.set_cons_succ]
      refine wpAnyH_take (i := 6) (oi := _) (v := ?va6) rfl (by kernel_rfl) (by kernel_rfl) (by kernel_rfl) (fun _ _ _ h => by cases h.1) (Or.inl ⟨by rfl, ?hya6⟩) (by assumption) ?resta6
      case hya6 => (intro V hSw; (try dsimp only at hSw); go_simp) <;> with_reducible rfl
      try simp only [Act.put, List.getElem_toArray, List.getElem_cons_succ, List.getElem_cons_zero, List.setIfInBounds_toArray, List.set_cons_zero, List.set_cons_succ]
      refine wpAnyH_ready (rs := [0, 4]) (by kernel_rfl) (by simp) ?_
      refine (AllReadyH.cons (o := _) rfl (fun K9 hK => ?_) (AllReadyH.cons (o := _) rfl (fun K9 hK => ?_) AllReadyH.nil))
      · go_simp
        refine hK.out _ _ trivial (fun hHeld => ?_)
        clear hK K9
        try simp only [Act.put, List.getElem_toArray, List.getElem_cons_succ, List.getElem_cons_zero, List.setIfInBounds_toArray, List.set_cons_zero, List.set_cons_succ]
        refine wpAnyH_take (i := 3) (oi := _) (v := ?vb3) rfl (by kernel_rfl) (by kernel_rfl) (by kernel_rfl) (fun _ _ _ h => by cases h.1) (Or.inl ⟨by rfl, ?hyb3⟩) (by assumption) ?restb3
        case hyb3 => (intro V hSw; (try dsimp only at hSw); go_simp) <;> with_reducible rfl
        try simp only [Act.put, List.getElem_toArray, List.getElem_cons_succ, List.getElem_cons_zero, List.setIfInBounds_toArray, List.set_cons_zero, List.set_cons_succ]
        refine wpAnyH_take (i := 8) (oi := _) (v := ?vb8) rfl (by kernel_rfl) (by kernel_rfl) (by kernel_rfl) (fun _ _ _ h => by cases h.1) (Or.inl ⟨by rfl, ?hyb8⟩) (by assumption) ?restb8
        case hyb8 => (intro V hSw; (try dsimp only at hSw); go_simp) <;> with_reducible rfl
        try simp only [Act.put, List.getElem_toArray, List.getElem_cons_succ, List.getElem_cons_zero, List.setIfInBounds_toArray, List.set_cons_zero, List.set_cons_succ]
        refine wpAnyH_ready (rs := [4]) (by kernel_rfl) (by simp) ?_
        refine (AllReadyH.cons (o := _) rfl (fun K9 hK => ?_) AllReadyH.nil)
        go_simp
        refine hK.out _ _ trivial (fun hHeld => ?_)
        clear hK K9
        try simp only [Act.put, List.getElem_toArray, List.getElem_cons_succ, List.getElem_cons_zero, List.setIfInBounds_toArray, List.set_cons_zero, List.set_cons_succ]
        refine wpAnyH_take (i := 7) (oi := _) (v := ?vb7) rfl (by kernel_rfl) (by kernel_rfl) (by kernel_rfl) (fun _ _ _ h => by cases h.1) (Or.inl ⟨by rfl, ?hyb7⟩) (by assumption) ?restb7
        case hyb7 => (intro V hSw; (try dsimp only at hSw); go_simp) <;> with_reducible rfl
        try simp only [Act.put, List.getElem_toArray, List.getElem_cons_succ, List.getElem_cons_zero, List.setIfInBounds_toArray, List.set_cons_zero, List.set_cons_succ]
        refine wpAnyH_ready (rs := [9]) (by kernel_rfl) (by simp) ?_
        refine (AllReadyH.cons (o := _) rfl (fun K9 hK => ?_) AllReadyH.nil)
        go_simp
        refine hK.out _ _ trivial (fun hHeld => ?_)
        clear hK K9
        try simp only [Act.put, List.getElem_toArray, List.getElem_cons_succ, List.getElem_cons_zero, List.setIfInBounds_toArray, List.set_cons_zero, List.set_cons_succ]
        refine wpAnyH_done (by kernel_rfl) ?_ _
        refine ⟨rfl, ?_⟩
        gi_wp2
        refine ⟨fun _ => by omega, ?_⟩
        refine HRR.out.mono ?_
        rintro e W3 (⟨rfl, hJ3, hk3⟩ | ⟨rfl, hJx3⟩)
        · have q3 := HQ1.out.2.kp hk3 (Nat.le_refl _) (by omega)
          have HQ3 := Lib.hid (And.intro hJ3 q3)
          clear hJ3 hk3 q3 c1
          gi_wp2
          go_roundw
          case rel =>
            obtain ⟨hget, hy, hz, hzz, hjl, hrl⟩ := HH.out
            refine ⟨pre ++ [r.take (j + 1)], r.drop (j + 1), ⟨by rw [hget], by rw [List.length_drop]; omega⟩, HQ3.out.1, ?_⟩
            rw [← hy]; exact HQ3.out.2
          case measure =>
            obtain ⟨hget, hy, hz, hzz, hjl, hrl⟩ := HH.out
            rw [strLeft_of HQ3.out.2, strLeft_of HQ.out, hy, strB_size, strB_size, List.length_drop]
            omega
        · gi_wp2
          refine bodyPost_ret (results_none rfl _ _ _) rfl ?_
          exact ⟨⟨_, rfl⟩, .inr ⟨_, trivial, hJx3⟩⟩
      · go_simp
        refine hK.out _ _ trivial (fun hHeld => ?_)
        clear hK K9
        try simp only [Act.put, List.getElem_toArray, List.getElem_cons_succ, List.getElem_cons_zero, List.setIfInBounds_toArray, List.set_cons_zero, List.set_cons_succ]
        refine wpAnyH_take (i := 7) (oi := _) (v := ?vc7) rfl (by kernel_rfl) (by kernel_rfl) (by kernel_rfl) (fun _ _ _ h => by cases h.1) (Or.inl ⟨by rfl, ?hyc7⟩) (by assumption) ?restc7
        case hyc7 => (intro V hSw; (try dsimp only at hSw); go_simp) <;> with_reducible rfl
        try simp only [Act.put, List.getElem_toArray, List.getElem_cons_succ, List.getElem_cons_zero, List.setIfInBounds_toArray, List.set_cons_zero, List.set_cons_succ]
        refine wpAnyH_ready (rs := [0]) (by kernel_rfl) (by simp) ?_
        refine (AllReadyH.cons (o := _) rfl (fun K9 hK => ?_) AllReadyH.nil)
        go_simp
        refine hK.out _ _ trivial (fun hHeld => ?_)
        clear hK K9
        try simp only [Act.put, List.getElem_toArray, List.getElem_cons_succ, List.getElem_cons_zero, List.setIfInBounds_toArray, List.set_cons_zero, List.set_cons_succ]
        refine wpAnyH_take (i := 3) (oi := _) (v := ?vc3) rfl (by kernel_rfl) (by kernel_rfl) (by kernel_rfl) (fun _ _ _ h => by cases h.1) (Or.inl ⟨by rfl, ?hyc3⟩) (by assumption) ?restc3
        case hyc3 => (intro V hSw; (try dsimp only at hSw); go_simp) <;> with_reducible rfl
        try simp only [Act.put, List.getElem_toArray, List.getElem_cons_succ, List.getElem_cons_zero, List.setIfInBounds_toArray, List.set_cons_zero, List.set_cons_succ]
        refine wpAnyH_take (i := 8) (oi := _) (v := ?vc8) rfl (by kernel_rfl) (by kernel_rfl) (by kernel_rfl) (fun _ _ _ h => by cases h.1) (Or.inl ⟨by rfl, ?hyc8⟩) (by assumption) ?restc8
        case hyc8 => (intro V hSw; (try dsimp only at hSw); go_simp) <;> with_reducible rfl
        try simp only [Act.put, List.getElem_toArray, List.getElem_cons_succ, List.getElem_cons_zero, List.setIfInBounds_toArray, List.set_cons_zero, List.set_cons_succ]
        refine wpAnyH_ready (rs := [9]) (by kernel_rfl) (by simp) ?_
        refine (AllReadyH.cons (o := _) rfl (fun K9 hK => ?_) AllReadyH.nil)
        go_simp
        refine hK.out _ _ trivial (fun hHeld => ?_)
        clear hK K9
        try simp only [Act.put, List.getElem_toArray, List.getElem_cons_succ, List.getElem_cons_zero, List.setIfInBounds_toArray, List.set_cons_zero, List.set_cons_succ]
        refine wpAnyH_done (by kernel_rfl) ?_ _
        refine ⟨rfl, ?_⟩
        gi_wp2
        refine ⟨fun _ => by omega, ?_⟩
        refine HRR.out.mono ?_
        rintro e W3 (⟨rfl, hJ3, hk3⟩ | ⟨rfl, hJx3⟩)
        · have q3 := HQ1.out.2.kp hk3 (Nat.le_refl _) (by omega)
          have HQ3 := Lib.hid (And.intro hJ3 q3)
          clear hJ3 hk3 q3 c1
          gi_wp2
          go_roundw
          case rel =>
            obtain ⟨hget, hy, hz, hzz, hjl, hrl⟩ := HH.out
            refine ⟨pre ++ [r.take (j + 1)], r.drop (j + 1), ⟨by rw [hget], by rw [List.length_drop]; omega⟩, HQ3.out.1, ?_⟩
            rw [← hy]; exact HQ3.out.2
          case measure =>
            obtain ⟨hget, hy, hz, hzz, hjl, hrl⟩ := HH.out
            rw [strLeft_of HQ3.out.2, strLeft_of HQ.out, hy, strB_size, strB_size, List.length_drop]
            omega
        · gi_wp2
          refine bodyPost_ret (results_none rfl _ _ _) rfl ?_
          exact ⟨⟨_, rfl⟩, .inr ⟨_, trivial, hJx3⟩⟩

    · have hj1 : Lib.indexByte r 10 = -1 := by have := Lib.indexByte_ge r 10; omega
      have hno := ix_no hj1
      have HI := Lib.hid (show Calls Tryz.prog 32 #[.string z, .int .u8 10] wr fun e w' => e = .returned (.int .i64 (-1)) ∧ w' = wr by have := ixb_is z 10 wr; rw [hzl] at this; rw [show ((10 : Int).toNat.toUInt8) = (10 : UInt8) from rfl, hj1] at this; exact this)
      have hget : linesOf (splitP 10 l) = (pre ++ [r]) ++ linesOf (splitP 10 ([] : List UInt8)) := by
        have e : linesOf (splitP 10 ([] : List UInt8)) = [] := rfl
        rw [hsp, splitP_none hno, e, linesOf, if_neg hr0]
        simp
      have hq1 : J pre (wr.setCell ⟨B, 0, none⟩ (.string ⟨#[]⟩)) ∧ Blk (wr.setCell ⟨B, 0, none⟩ (.string ⟨#[]⟩)) B 9 #[.string ⟨#[]⟩] := ⟨HJ.out.2 _ _ _ hJs (gset _ _ _ _), q0.set 0 (.string ⟨#[]⟩)⟩
      have hyy := HY.out pre r _ hq1.1 (by rw [hget, List.append_assoc, List.getElem?_append_right (Nat.le_refl _)]; simp)
      rw [← hz] at hyy
      obtain ⟨fn, tmps, assign, body, hy2, hR⟩ := hyy
      have HH := Lib.hid (And.intro hget (And.intro hz (And.intro hzz hpos)))
      have HQ := Lib.hid q0
      have HQ1 := Lib.hid hq1
      have HRR := Lib.hid hR
      clear hget hzz hno hJs hsp q0 hR hz hzl hj hj1 hrl hr0 hpos hq1
      gi_wp2
      refine ⟨trivial, (fun h => by cases h), ?_⟩
      refine (callsIn_wide.2 HI.out).mono ?_
      rintro e w1 ⟨rfl, rfl⟩
      gi_wp2
      refine ⟨fun _ => by omega, ?_⟩
      refine HRR.out.mono ?_
      rintro e W3 (⟨rfl, hJ3, hk3⟩ | ⟨rfl, hJx3⟩)
      · have q3 := HQ1.out.2.kp hk3 (Nat.le_refl _) (by omega)
        have HQ3 := Lib.hid (And.intro hJ3 q3)
        clear hJ3 hk3 q3 c1
        gi_wp2
        go_roundw
        case rel =>
          obtain ⟨hget, hz, hzz, hpos⟩ := HH.out
          exact ⟨pre ++ [r], [], ⟨by rw [hget], by simp⟩, HQ3.out.1, HQ3.out.2⟩
        case measure =>
          obtain ⟨hget, hz, hzz, hpos⟩ := HH.out
          rw [strLeft_of HQ3.out.2, strLeft_of HQ.out, strB_size]
          exact hpos
      · gi_wp2
        refine bodyPost_ret (results_none rfl _ _ _) rfl ?_
        exact ⟨⟨_, rfl⟩, .inr ⟨_, trivial, hJx3⟩⟩
/-- The iterators as the law of the statement asks them. -/
def strE (x : List UInt8) : Array Value := #[.string (strB x)]
theorem split_seq (m : Nat) (hm : 2 ≤ m) (B : Nat) (c : UInt8) (l : List UInt8) (hl : l.length ≤ 1000000) (w : World) (b0 : Blk w B 9 #[.string (strB l)]) (b1 : Blk w (B + 1) 9 #[.string ⟨#[c]⟩]) (b2 : Blk w (B + 2) 3 #[.int .i64 0]) :
    SeqToldB B Fence.wide m Tryz.prog 67 #[.pointer (some ⟨B + 1, 0, none⟩), .pointer (some ⟨B, 0, none⟩), .pointer (some ⟨B + 2, 0, none⟩)] strE (KpC B (B + 3)) (fun pre _ x _ => (splitP c l)[pre.length]? = some x)
      (fun xs => xs = splitP c l) (fun _ => True) w := fun l0 J Jx W hW hJ _ hJb _ hY h0 =>
  split1_in m l0 B c l hl J Jx hm (fun s A B hA hg => hJ _ A B none hA hg (fun _ e => by cases e)) hJb (fun pre x V hp hx => hY pre x V hp hx) W
    ((hW.block _ b0.lt).trans b0) ((hW.block _ b1.lt).trans b1) ((hW.block _ b2.lt).trans b2) h0
theorem lines_seq (m : Nat) (hm : 2 ≤ m) (B : Nat) (l : List UInt8) (hl : l.length ≤ 1000000) (w : World) (b0 : Blk w B 9 #[.string (strB l)]) :
    SeqToldB B Fence.wide m Tryz.prog 31 #[.pointer (some ⟨B, 0, none⟩)] strE (KpC B (B + 1)) (fun pre _ x _ => (linesOf (splitP 10 l))[pre.length]? = some x)
      (fun xs => xs = linesOf (splitP 10 l)) (fun _ => True) w := fun l0 J Jx W hW hJ _ hJb _ hY h0 =>
  lines1_in m l0 B l hl J Jx hm (fun s A B hA hg => hJ _ A B none hA hg (fun _ e => by cases e)) hJb (fun pre x V hp hx => hY pre x V hp hx) W ((hW.block _ b0.lt).trans b0) h0
end Go.Proofs.YtonkdcbmmdhjgaaGreatDoor
