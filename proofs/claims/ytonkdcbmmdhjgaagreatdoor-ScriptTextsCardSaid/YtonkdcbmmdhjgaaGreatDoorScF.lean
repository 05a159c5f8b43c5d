/-
  strings.SplitSeq and strings.Lines as iterators.
-/
import Derived.Test.YtonkdcbmmdhjgaaGreatDoorScB
import Derived.Test.YtonkdcbmmdhjgaaGreatDoorScR
import Derived.Lib.IndexLaws
namespace Go.Proofs.YtonkdcbmmdhjgaaGreatDoor
open Go.RowKit Go.Shelf

attribute [local go_sem] Oper.semAt_some

/-- What a round keeps: these blocks of cells. -/
def KpC (a b : Nat) {α : Type} (_ : α) (V V' : World) : Prop := ∀ g, a ≤ g → g < b → ∀ o, V.heap[g]? = some o → o.isCells = true → V'.heap[g]? = some o
section
variable {a b : Nat} {α : Type} {x : α} {A B C : World}
theorem KpC.trans (h : KpC a b x A B) (k : KpC a b x B C) : KpC a b x A C := fun g h1 h2 o ho hc => k g h1 h2 o (h g h1 h2 o ho hc) hc
theorem KpC.put {W : World} {l : Nat} {o o' : Obj} (ho : W.heap[l]? = some o) (hc : o.isCells = false) : KpC a b x W (W.putObj l o') := fun g _ _ q hq hqc =>
  ((grownBy_putObj' W l o').block g (Array.getElem?_eq_some_iff.1 hq).1 (fun e => by
    have := Option.some.inj e
    subst this
    rw [ho] at hq
    cases hq
    rw [hc] at hqc
    cases hqc)).trans hq
theorem KpC.grown {row : Option Nat} (hg : A.grownBy B row) (hr : ∀ r, row = some r → r < a ∨ b ≤ r) : KpC a b x A B := fun g h1 h2 o ho _ =>
  (hg.block g (Array.getElem?_eq_some_iff.1 ho).1 (fun e => by have := hr g e.symm; omega)).trans ho
theorem Blk.kp {g : Nat} {t : TypeId} {cs : Array Value} (h : Blk A g t cs) (k : KpC a b x A B) (h1 : a ≤ g) (h2 : g < b) : Blk B g t cs := k g h1 h2 _ h rfl
end
theorem ix_no {l : List UInt8} {c : UInt8} (h : Lib.indexByte l c = -1) : c ∉ l := fun hm => by
  obtain ⟨k, hk, e⟩ := List.getElem_of_mem hm
  exact Lib.indexByte_none h k (by rw [List.getElem?_eq_getElem hk, e])
theorem ix_yes {l : List UInt8} {c : UInt8} {j : Nat} (h : Lib.indexByte l c = (j : Int)) : j < l.length ∧ l = l.take j ++ c :: l.drop (j + 1) ∧ c ∉ l.take j := by
  obtain ⟨h1, h2⟩ := Lib.indexByte_some h
  obtain ⟨hj, e⟩ := List.getElem?_eq_some_iff.1 h1
  refine ⟨hj, ?_, fun hm => ?_⟩
  · conv => lhs; rw [← List.take_append_drop j l]
    rw [List.drop_eq_getElem_cons hj, e]
  · obtain ⟨k, hk, e2⟩ := List.getElem_of_mem hm
    rw [List.length_take] at hk
    rw [List.getElem_take] at e2
    exact h2 k (by omega) (by rw [List.getElem?_eq_getElem (by omega), e2])
theorem gset (W : World) (g i : Nat) (u : Value) : W.grownBy (W.setCell ⟨g, i, none⟩ u) (some g) :=
  ⟨rfl, rfl, rfl, by simp [World.setCell], fun k _ hne => Below.heap_setCell W ⟨g, i, none⟩ u k (fun e => hne (by rw [e]))⟩
def strLeft (b : Nat) (W : World) : Nat := match W.cell? ⟨b, 0, none⟩ with
  | some (.string r) => r.size
  | _ => 0
theorem strLeft_of {b : Nat} {W : World} {r : ByteArray} {t : TypeId} (h : Blk W b t #[.string r]) : strLeft b W = r.size := by
  unfold strLeft
  rw [h.cell 0]; rfl
theorem size_list (s : ByteArray) : s.data.toList.length = s.size := Array.length_toList
theorem strB_size (l : List UInt8) : (strB l).size = l.length := by simp [strB, ByteArray.size]
theorem ext_head (s : ByteArray) (j : Nat) : s.extract 0 j = strB (s.data.toList.take j) := by
  obtain ⟨⟨l⟩⟩ := s
  apply ByteArray.ext
  apply Array.ext'
  simp [strB]
theorem ext_tail (s : ByteArray) (j : Nat) : s.extract j s.size = strB (s.data.toList.drop j) := by
  obtain ⟨⟨l⟩⟩ := s
  apply ByteArray.ext
  apply Array.ext'
  have e : (ByteArray.mk ⟨l⟩).size = l.length := rfl
  simp only [strB, e, ByteArray.data_extract, Array.toList_extract, List.extract_eq_take_drop]
  exact List.take_of_length_le (by simp)
theorem slice_head (s : ByteArray) (j : Nat) (hj : j ≤ s.size) (W : World) : Sem.run Tryz.prog (Instr.slice 9 (.string s) none (some (.int .i64 (j : Int))) none) W = .ok (.string (strB (s.data.toList.take j))) W := by
  have h := run_slice_string_h (P := Tryz.prog) (w := W) (t := 9) (s := s) Tryz.underlying9 .i64 (j : Int) (by omega) (by omega)
  rw [h, Int.toNat_natCast, ext_head]
theorem slice_tail (s : ByteArray) (j : Nat) (hj : j ≤ s.size) (W : World) : Sem.run Tryz.prog (Instr.slice 9 (.string s) (some (.int .i64 (j : Int))) none none) W = .ok (.string (strB (s.data.toList.drop j))) W := by
  have h := run_slice_string_l (P := Tryz.prog) (w := W) (t := 9) (s := s) Tryz.underlying9 .i64 (j : Int) (by omega) (by omega)
  rw [h, Int.toNat_natCast, ext_tail]
theorem split0_is (s sep : ByteArray) (w : World) : Calls Tryz.prog 51 #[.string s, .string sep, .int .i64 0] w fun e w' => e = .returned (.func (.func 67) #[] #[.pointer (some ⟨w.heap.size + 1, 0, none⟩), .pointer (some ⟨w.heap.size, 0, none⟩), .pointer (some ⟨w.heap.size + 2, 0, none⟩)]) ∧
      w' = ((w.alloc (.cells #[.string s] 9)).alloc (.cells #[.string sep] 9)).alloc (.cells #[.int .i64 0] 3) := by
  go_enter Tryz.func51, Tryz.ntmps51
  go_wp2_with fail
  go_ret
  exact ⟨rfl, rfl⟩
theorem split_is (s sep : ByteArray) (w : World) : Calls Tryz.prog 42 #[.string s, .string sep] w fun e w' => e = .returned (.func (.func 67) #[] #[.pointer (some ⟨w.heap.size + 1, 0, none⟩), .pointer (some ⟨w.heap.size, 0, none⟩), .pointer (some ⟨w.heap.size + 2, 0, none⟩)]) ∧
      w' = ((w.alloc (.cells #[.string s] 9)).alloc (.cells #[.string sep] 9)).alloc (.cells #[.int .i64 0] 3) := by
  go_enter Tryz.func42, Tryz.ntmps42
  go_wp2_with (go_at_call 51; refine (split0_is _ _ _).mono ?_; rintro e w' ⟨rfl, rfl⟩)
  go_ret
  exact ⟨rfl, rfl⟩
theorem lines_is (s : ByteArray) (w : World) : Calls Tryz.prog 16 #[.string s] w fun e w' => e = .returned (.func (.func 31) #[] #[.pointer (some ⟨w.heap.size, 0, none⟩)]) ∧ w' = w.alloc (.cells #[.string s] 9) := by
  go_enter Tryz.func16, Tryz.ntmps16
  go_wp2_with fail
  go_ret
  exact ⟨rfl, rfl⟩
set_option maxRecDepth 100000 in
set_option maxHeartbeats 2000000 in
theorem split1_in (m l0 B : Nat) (c : UInt8) (l : List UInt8) (hl : l.length ≤ 1000000) (J Jx : List (List UInt8) → World → Prop) (hm : 2 ≤ m)
    (hJ : ∀ s A B', J s A → A.grownBy B' none → J s B') (hJb : ∀ pre A B', J pre A → A.grownBy B' (some B) → J pre B')
    (hY : ∀ pre x V, J pre V → (splitP c l)[pre.length]? = some x → YieldAt Fence.wide (m - 1) Tryz.prog l0 #[.string (strB x)] V fun e V' =>
      (e = .returned (.bool true) ∧ J (pre ++ [x]) V' ∧ KpC B (B + 3) x V V') ∨ (e = .returned (.bool false) ∧ Jx (pre ++ [x]) V'))
    (W : World) (b0 : Blk W B 9 #[.string (strB l)]) (b1 : Blk W (B + 1) 9 #[.string ⟨#[c]⟩]) (b2 : Blk W (B + 2) 3 #[.int .i64 0]) (h0 : J [] W) :
    CallsIn Fence.wide m Tryz.prog 67 #[.func (.yield l0) #[] #[], .pointer (some ⟨B + 1, 0, none⟩), .pointer (some ⟨B, 0, none⟩), .pointer (some ⟨B + 2, 0, none⟩)] W fun e W' => (∃ v, e = .returned v) ∧
      ((∃ xs, xs = splitP c l ∧ J xs W') ∨ (∃ pre, True ∧ Jx pre W')) := by
  have c1 : W.cell? ⟨B + 1, 0, none⟩ = some (.string ⟨#[c]⟩) := b1.cell 0
  have J0 := Lib.hid (And.intro h0 (And.intro b0 (And.intro b1 b2)))
  have HJ := Lib.hid (And.intro hJ hJb)
  have HY := Lib.hid hY
  have HLL := Lib.hid hl
  clear hl h0 b0 b1 b2 hJ hJb hY
  refine callsIn_of_wp Tryz.func67 rfl trivial ?_ rfl
  simp only [Tryz.ntmps67, List.size_toArray, List.length_cons, List.length_nil, Nat.reduceAdd, Nat.reduceSub, Array.replicate_succ, Array.replicate_zero, List.push_toArray, List.append_toArray, List.nil_append, List.cons_append]
  gi_wp2
  clear c1
  gi_loopw [7] (fun _ wr => ∃ (pre : List (List UInt8)) (r : List UInt8), (splitP c l = pre ++ splitP c r ∧ r.length ≤ 1000000) ∧ J pre wr ∧ Blk wr B 9 #[.string (strB r)] ∧ Blk wr (B + 1) 9 #[.string ⟨#[c]⟩] ∧ Blk wr (B + 2) 3 #[.int .i64 0]) (fun _ wr => strLeft B wr)
  case atStart => exact ⟨[], l, ⟨rfl, HLL.out⟩, J0.out⟩
  case round =>
    obtain ⟨pre, r, ⟨hsp, hrl⟩, hJs, q0, q1, q2⟩ := hrel
    have c1 : wr.cell? ⟨B, 0, none⟩ = some (.string (strB r)) := q0.cell 0
    have c2 : wr.cell? ⟨B + 1, 0, none⟩ = some (.string ⟨#[c]⟩) := q1.cell 0
    have c3 : wr.cell? ⟨B + 2, 0, none⟩ = some (.int .i64 0) := q2.cell 0
    obtain ⟨z, hz⟩ : ∃ z, z = strB r := ⟨_, rfl⟩
    have hzl : z.data.toList = r := by rw [hz, strB_list]
    rw [← hz] at c1
    by_cases hj : 0 ≤ Lib.indexByte r c
    · obtain ⟨j, hj⟩ : ∃ j : Nat, Lib.indexByte r c = (j : Int) := ⟨(Lib.indexByte r c).toNat, by omega⟩
      obtain ⟨hjl, hsplit, hno⟩ := ix_yes hj
      have hzz : z.size = r.length := by rw [hz, strB_size]
      have HI := Lib.hid (show Calls Tryz.prog 55 #[.string z, .string ⟨#[c]⟩] wr fun e w' => e = .returned (.int .i64 (j : Int)) ∧ w' = wr by have := ix_is z c wr; rwa [hzl, hj] at this)
      obtain ⟨x, hx⟩ : ∃ x, x = strB (r.take j) := ⟨_, rfl⟩
      obtain ⟨y, hy⟩ : ∃ y, y = strB (r.drop (j + 1)) := ⟨_, rfl⟩
      have s1 : ∀ W, Sem.run Tryz.prog (Instr.slice 9 (.string z) none (some (.int .i64 (j : Int))) none) W = .ok (.string x) W := fun W => by
        have := slice_head z j (by omega) W; rwa [hzl, ← hx] at this
      have s2 : ∀ W, Sem.run Tryz.prog (Instr.slice 9 (.string z) (some (.int .i64 ((j : Int) + 1))) none none) W = .ok (.string y) W := fun W => by
        have := slice_tail z (j + 1) (by omega) W; rw [hzl, ← hy] at this; exact this
      have hget : splitP c l = (pre ++ [r.take j]) ++ splitP c (r.drop (j + 1)) := by
        rw [hsp]; conv => lhs; rw [hsplit, splitP_hit hno]
        simp
      have hyy := HY.out pre (r.take j) wr hJs (by rw [hget, List.append_assoc, List.getElem?_append_right (Nat.le_refl _)]; simp)
      rw [← hx] at hyy
      obtain ⟨fn, tmps, assign, body, hy2, hR⟩ := hyy
      have d1 : decide ((j : Int) < 0) = false := by simp
      have hjb : j < 1000000 := by omega
      have HH := Lib.hid (And.intro hget (And.intro hy (And.intro hz (And.intro hzz (And.intro hjl hrl)))))
      have HQ := Lib.hid (And.intro q0 (And.intro q1 q2))
      have HRR := Lib.hid hR
      clear hget hy hzz hx hno hsplit hJs hsp q0 q1 q2 hR hz hzl hj hjl hrl
      gi_wp2
      refine ⟨trivial, (fun h => by cases h), ?_⟩
      refine (callsIn_wide.2 HI.out).mono ?_
      rintro e w1 ⟨rfl, rfl⟩
      gi_wp2
      refine ⟨fun _ => by omega, ?_⟩
      refine HRR.out.mono ?_
      rintro e W3 (⟨rfl, hJ3, hk3⟩ | ⟨rfl, hJx3⟩)
      · have q0 := HQ.out.1.kp hk3 (Nat.le_refl _) (by omega)
        have q1 := HQ.out.2.1.kp hk3 (by omega) (by omega)
        have q2 := HQ.out.2.2.kp hk3 (by omega) (by omega)
        rw [← HH.out.2.2.1] at q0
        have e1 : W3.cell? ⟨B, 0, none⟩ = some (.string z) := q0.cell 0
        have e2 : W3.cell? ⟨B + 1, 0, none⟩ = some (.string ⟨#[c]⟩) := q1.cell 0
        have f1 : W3.frozen? ⟨B, 0, none⟩ = false := q0.frozen 0
        have HQ3 := Lib.hid (And.intro hJ3 (And.intro q0 (And.intro q1 q2)))
        clear hJ3 hk3 q0 q1 q2 c1 c2 c3
        gi_wp2
        go_roundw
        case rel =>
          obtain ⟨hget, hy, hz, hzz, hjl, hrl⟩ := HH.out
          obtain ⟨hJ3, q0, q1, q2⟩ := HQ3.out
          have hg := gset W3 B 0 (.string y)
          have h0 := q0.set 0 (.string y)
          refine ⟨pre ++ [r.take j], r.drop (j + 1), ⟨by rw [hget], by rw [List.length_drop]; omega⟩, HJ.out.2 _ _ _ hJ3 hg, ?_, q1.grown hg (by intro e; have := Option.some.inj e; omega), q2.grown hg (by intro e; have := Option.some.inj e; omega)⟩
          rw [← hy]; exact h0
        case measure =>
          obtain ⟨hget, hy, hz, hzz, hjl, hrl⟩ := HH.out
          have h0 := HQ3.out.2.1.set 0 (.string y)
          rw [strLeft_of h0, strLeft_of HQ.out.1, hy, strB_size, strB_size, List.length_drop]
          omega
      · gi_wp2
        refine bodyPost_ret (results_none rfl _ _ _) rfl ?_
        exact ⟨⟨_, rfl⟩, .inr ⟨_, trivial, hJx3⟩⟩
    · have hj1 : Lib.indexByte r c = -1 := by have := Lib.indexByte_ge r c; omega
      have hno := ix_no hj1
      have HI := Lib.hid (show Calls Tryz.prog 55 #[.string z, .string ⟨#[c]⟩] wr fun e w' => e = .returned (.int .i64 (-1)) ∧ w' = wr by have := ix_is z c wr; rwa [hzl, hj1] at this)
      have hget : splitP c l = pre ++ [r] := by rw [hsp, splitP_none hno]
      have hyy := HY.out pre r wr hJs (by rw [hget, List.getElem?_append_right (Nat.le_refl _)]; simp)
      rw [← hz] at hyy
      obtain ⟨fn, tmps, assign, body, hy2, hR⟩ := hyy
      have HH := Lib.hid hget
      have HRR := Lib.hid hR
      clear hget hno hJs hsp q0 q1 q2 hR hz hzl hj hj1
      gi_wp2
      refine ⟨trivial, (fun h => by cases h), ?_⟩
      refine (callsIn_wide.2 HI.out).mono ?_
      rintro e w1 ⟨rfl, rfl⟩
      gi_wp2
      refine ⟨fun _ => by omega, ?_⟩
      refine HRR.out.mono ?_
      rintro e W3 (⟨rfl, hJ3, hk3⟩ | ⟨rfl, hJx3⟩)
      · have HQ3 := Lib.hid hJ3
        clear hJ3 hk3
        gi_wp2
        go_end0
        exact ⟨⟨_, rfl⟩, .inl ⟨_, by rw [HH.out], HQ3.out⟩⟩
      · have HQ3 := Lib.hid hJx3
        clear hJx3
        gi_wp2
        go_end0
        exact ⟨⟨_, rfl⟩, .inr ⟨_, trivial, HQ3.out⟩⟩
end Go.Proofs.YtonkdcbmmdhjgaaGreatDoor
