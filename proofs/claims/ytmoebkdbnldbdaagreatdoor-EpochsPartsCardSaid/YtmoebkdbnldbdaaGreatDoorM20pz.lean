/-
  Several texts in one: Dg2, Dg3, DgRef, ChF.
-/
import Derived.Test.YtmoebkdbnldbdaaGreatDoorM20pb
import Derived.Test.YtmoebkdbnldbdaaGreatDoorM20py
import Derived.OwnWalk
import Derived.Laws.MakeOwn
import Derived.Laws.OwnMore
import Derived.Test.YtmoebkdbnldbdaaGreatDoorM20pw
import Derived.Test.YtmoebkdbnldbdaaGreatDoorM20pi
import Derived.Deep.MidRow
/-
  chains.base4, chains.Digits.
-/
namespace Go.Proofs.YtmoebkdbnldbdaaGreatDoor
open Go.RowKit

theorem i64_and3 (n : Int) : bits .and .i64 n 3 = n % 4 := by
  have h3 : (BitVec.ofInt 64 3).toNat = 2 ^ 2 - 1 := by decide
  have key : (BitVec.ofInt 64 n &&& BitVec.ofInt 64 3).toNat = (n % ((2 ^ 64 : Nat) : Int)).toNat % 2 ^ 2 := by
    rw [BitVec.toNat_and, BitVec.toNat_ofInt, h3, Nat.and_two_pow_sub_one_eq_mod]
  show IntKind.i64.wrap ((BitVec.ofInt 64 n &&& BitVec.ofInt 64 3).toNat : Nat) = n % 4
  rw [key, IntKind.wrap_i64]
  omega
def four (n : Int) (k : Nat) : Array Value := arrV .i64 ((dig4 n).take k ++ List.replicate (4 - k) 0)

theorem dig4_length (n : Int) : (dig4 n).length = 4 := rfl
theorem four_size (n : Int) (k : Nat) (h : k ≤ 4) : (four n k).size = 4 := by
  rw [four, arr_size, List.length_append, List.length_take, List.length_replicate, dig4_length]; omega
theorem four_all (n : Int) : four n 4 = arrV .i64 (dig4 n) := by
  rw [four, List.take_of_length_le (by rw [dig4_length]; omega)]; simp

set_option maxRecDepth 100000 in
set_option maxHeartbeats 1000000 in
theorem base4_is (w : World) (n : Int) (hn : 0 ≤ n ∧ n < 1000) : Calls Tryz.prog 119 #[.int .i64 n] w fun e w' => e = .returned (.agg (arrV .i64 (dig4 n))) ∧ w.grownBy w' none := by
  have HN := Lib.hid hn
  clear hn
  go_enter Tryz.func119, Tryz.ntmps119
  go_wp2_with fail
  have hB1 := Blk.new (w.alloc (.cells (four n 0) 204)) 204 (four n 0)
  have hB0 := (Blk.new w 204 (four n 0)).alloc (.cells (four n 0) 204)
  have hk := grown_trans (World.grownBy_alloc w (.cells (four n 0) 204) none) (World.grownBy_alloc _ (.cells (four n 0) 204) none)
  rw [World.size_alloc] at hB1
  rw [show (#[Value.int .i64 0, .int .i64 0, .int .i64 0, .int .i64 0] : Array Value) = four n 0 by simp [four, arrV, dig4]]
  generalize (w.alloc (.cells (four n 0) 204)).alloc (.cells (four n 0) 204) = w1 at *
  go_loopw [5] (fun i wr => ∃ k : Nat, k ≤ 4 ∧ i = .int .i64 (k : Int) ∧ Blk wr (w.heap.size + 1) 204 (four n k) ∧ Blk wr w.heap.size 204 (four n 0) ∧ w.grownBy wr none) (fun i _ => 4 - (intOf i).toNat)
  case atStart => exact ⟨0, by omega, rfl, hB1, hB0, hk⟩
  case round =>
    obtain ⟨k, hk, hi, hB, hB0, hK⟩ := hrel
    subst hi
    by_cases hlt : k < 4
    · have c0 := hB.cell k
      have f0 := hB.frozen k
      have HB := Lib.hid hB
      have HB0 := Lib.hid hB0
      have HK := Lib.hid hK
      have hcases : k = 0 ∨ k = 1 ∨ k = 2 ∨ k = 3 := by omega
      clear hB hB0 hK hlt hk
      rcases hcases with rfl | rfl | rfl | rfl
      · simp [four, arrV, dig4] at c0
        have hv := i64_and3 (n / 64)
        go_wp2_with fail
        go_roundw
        case rel =>
          refine ⟨1, by omega, rfl, ?_, HB0.out.far (p := ⟨w.heap.size + 1, 0, none⟩) (by dsimp only; omega) _, grown_far HK.out (p := ⟨w.heap.size + 1, 0, none⟩) (.inl (by dsimp only; omega)) _⟩
          have := HB.out.set 0 (.int .i64 (n / 64 % 4))
          rw [show (four n 0).setIfInBounds 0 (.int .i64 (n / 64 % 4)) = four n 1 by simp [four, arrV, dig4]] at this
          first | exact this | (rw [hv]; exact this)
        case measure => simp [intOf]
      · simp [four, arrV, dig4] at c0
        have hv := i64_and3 (n / 16)
        go_wp2_with fail
        go_roundw
        case rel =>
          refine ⟨2, by omega, rfl, ?_, HB0.out.far (p := ⟨w.heap.size + 1, 1, none⟩) (by dsimp only; omega) _, grown_far HK.out (p := ⟨w.heap.size + 1, 1, none⟩) (.inl (by dsimp only; omega)) _⟩
          have := HB.out.set 1 (.int .i64 (n / 16 % 4))
          rw [show (four n 1).setIfInBounds 1 (.int .i64 (n / 16 % 4)) = four n 2 by simp [four, arrV, dig4]] at this
          first | exact this | (rw [hv]; exact this)
        case measure => simp [intOf]
      · simp [four, arrV, dig4] at c0
        have hv := i64_and3 (n / 4)
        go_wp2_with fail
        go_roundw
        case rel =>
          refine ⟨3, by omega, rfl, ?_, HB0.out.far (p := ⟨w.heap.size + 1, 2, none⟩) (by dsimp only; omega) _, grown_far HK.out (p := ⟨w.heap.size + 1, 2, none⟩) (.inl (by dsimp only; omega)) _⟩
          have := HB.out.set 2 (.int .i64 (n / 4 % 4))
          rw [show (four n 2).setIfInBounds 2 (.int .i64 (n / 4 % 4)) = four n 3 by simp [four, arrV, dig4]] at this
          first | exact this | (rw [hv]; exact this)
        case measure => simp [intOf]
      · simp [four, arrV, dig4] at c0
        have hv := i64_and3 (n)
        go_wp2_with fail
        go_roundw
        case rel =>
          refine ⟨4, by omega, rfl, ?_, HB0.out.far (p := ⟨w.heap.size + 1, 3, none⟩) (by dsimp only; omega) _, grown_far HK.out (p := ⟨w.heap.size + 1, 3, none⟩) (.inl (by dsimp only; omega)) _⟩
          have := HB.out.set 3 (.int .i64 (n % 4))
          rw [show (four n 3).setIfInBounds 3 (.int .i64 (n % 4)) = four n 4 by simp [four, arrV, dig4]] at this
          first | exact this | (rw [hv]; exact this)
        case measure => simp [intOf]
    · obtain rfl : k = 4 := by omega
      obtain ⟨cs, hcs⟩ : ∃ cs, cs = four n 4 := ⟨_, rfl⟩
      rw [← hcs] at hB
      have hsz : cs.size = 4 := by rw [hcs]; exact four_size n 4 (Nat.le_refl _)
      have HI := Lib.hid (show (Tryz.prog.info? 204).map (·.size) = some cs.size by rw [hsz]; kernel_rfl)
      have HS := Lib.hid (And.intro hsz (And.intro (show (cs.all fun x => x.oneCell') = true by rw [hcs, four_all]; simp [arrV, Value.oneCell']) hcs))
      have HB := Lib.hid hB
      have HB0 := Lib.hid hB0
      have HK := Lib.hid hK
      clear hsz hcs hB hB0 hK hlt hk
      go_wp2_with (first
        | (refine wpList_load_row rfl 204 _ rfl (w.heap.size + 1) rfl 204 cs (0, 0) _ HB.out Tryz.underlying204 rfl HI.out ?_)
        | (refine wpList_store_row rfl 204 _ _ rfl w.heap.size cs rfl rfl 204 _ HB0.out HI.out (by rw [HS.out.1]; exact four_size n 0 (by omega)) HS.out.2.1 ?_))
      refine bodyPost_ret (results_cell rfl _ _ _ ⟨w.heap.size, 0, none⟩ (.agg cs) rfl (run_loadVar_row _ w.heap.size 204 204 cs (0, 0) _ (HB0.out.row cs) Tryz.underlying204 rfl HI.out)) rfl ?_
      exact ⟨by rw [HS.out.2.2, four_all], grown_row HK.out (.inl (Nat.le_refl _)) cs⟩
end Go.Proofs.YtmoebkdbnldbdaaGreatDoor
/-
  chains.Digits.
-/
namespace Go.Proofs.YtmoebkdbnldbdaaGreatDoor
open Go.RowKit

theorem int_infoK21 : (Tryz.prog.info? 3).map (fun i => (i.zero, i.size, i.bytes)) = some (some (.int .i64 0), 1, 8) := by kernel_rfl
theorem digsS_take (d : List Int) (k : Nat) (h : k < d.length) : digsS (d.take (k + 1)) = digsS (d.take k) ++ dig4 (d.getD k 0) := by
  rw [List.take_add_one, List.getElem?_eq_getElem h]
  have happ : ∀ a b : List Int, digsS (a ++ b) = digsS a ++ digsS b := by
    intro a b
    induction a with
    | nil => rfl
    | cons x a ih => simp only [List.cons_append, digsS, ih, List.append_assoc]
  rw [happ]
  simp [digsS, List.getD, List.getElem?_eq_getElem h]
theorem take_push4 (l : List Int) (k : Nat) (h : k < l.length) : l.take (k + 1) = l.take k ++ [l.getD k 0] := by
  rw [List.take_add_one, List.getD, List.getElem?_eq_getElem h]; rfl
theorem index16 (w : World) {I : Int} {cs : Array Value} {v : Value} (hb : 0 ≤ I ∧ I < 16) (hv : cs[I.toNat]? = some v) : Sem.run Tryz.prog (Instr.index 24 (.agg cs) (.int .i64 I)) w = .ok v w :=
  run_index_agg (n := 16) Tryz.underlying24 (by kernel_rfl) (by kernel_rfl) hb hv
theorem index4 (w : World) {I : Int} {cs : Array Value} {v : Value} (hb : 0 ≤ I ∧ I < 4) (hv : cs[I.toNat]? = some v) : Sem.run Tryz.prog (Instr.index 204 (.agg cs) (.int .i64 I)) w = .ok v w :=
  run_index_agg (n := 4) Tryz.underlying204 (by kernel_rfl) (by kernel_rfl) hb hv

theorem arr_slice_all {P : Program} {w : World} {b n : Nat} {t e : TypeId} (hu : P.underlying t = some (.array n e)) (hs : (P.info? e).map (·.size) = some 1) :
    Sem.run P (Instr.sliceAt t (.pointer (some ⟨b, 0, none⟩)) none none none) w = .ok (.slice (some ⟨b, 0, none⟩) n n) w := by
  cases hi : P.info? e with
  | none => simp [hi] at hs
  | some ei =>
    have h4 := run_sliceAt_array_all (P := P) (w := w) t ⟨b, 0, none⟩ (by unfold Program.arrayLen Program.elem; simp [hu])
    rw [h4]
    simp [Program.arrayLen, Program.elem, hu, slicedAt, sizeOf, typeInfo, hi, Addr.add]
theorem own_some {w : World} {base : Nat} {e : TypeId} {n : Nat} {v : Value} {L : List Int} (h : w.ownsRow base e 1 v n (L.map (Value.int .i64))) (hn : 0 < n) : ∃ g cap, v = .slice (some ⟨g, 0, none⟩) n cap ∧ base ≤ g ∧ ∀ j, j < n → w.cell? ⟨g, j, none⟩ = some (.int .i64 (L.getD j 0)) := by
  have hl : L.length = n := by have := h.1; simpa using this
  rcases h.2 with ⟨_, h0⟩ | ⟨g, cap, cur, rfl, hb, hg, hnc, _, hsz, htake⟩
  · omega
  · refine ⟨g, cap, rfl, hb, fun j hj => ?_⟩
    rw [Joins.cell_of_block hg j, ← Array.getElem?_toList]
    have e1 : (cur.toList.take (n * 1))[j]? = cur.toList[j]? := by rw [List.getElem?_take, if_pos (by omega)]
    rw [← e1, htake]
    simp [List.getD, List.getElem?_eq_getElem (show j < L.length by omega)]
theorem wpList_append_one {P : Program} {w0 : World} {ops : Array Oper} {rest : List Oper} {o : Oper} {a : Act} {Q : Exit → Act → World → Prop} (hgd : o.guard = none) (s x : Operand) (t : TypeId)
    (ho : o.op = .call { callee := .builtin .append, args := #[s, x], argTypes := #[t, t] }) (base : Nat) (e e0 : TypeId) (i : TypeInfo) (ht : P.underlying t = some (.slice e)) (hi : P.info? e = some i) (hz : i.zero = some (.int .i64 0)) (hsize : i.size = 1) (hby : i.bytes = 8)
    (v : Value) (n : Nat) (xs : List Value) (hs : a.eval s = v) (hown : w0.ownsRow base e 1 v n xs) (y : Int) (hx : a.eval x = .slice (some ⟨w0.heap.size, 0, none⟩) 1 1) (hn : n ≤ 1000) (hbase : base ≤ w0.heap.size)
    (h : ∀ v' w', w'.ownsRow base e 1 v' (n + 1) (xs ++ [.int .i64 y]) → w0.grownBy w' v.ownBlock → wpList P ops Q rest (a.put o.dst v') w') : wpList P ops Q (o :: rest) a (w0.alloc (.cells #[.int .i64 y] e0)) := by
  refine wpList_append_own _ hgd s x t ho base e i (.int .i64 0) 1 8 ht hi hz hsize hby rfl (by omega) v n xs hs (hown.alloc _) ⟨w0.heap.size, 0, none⟩ 1 1 [.int .i64 y] hx rfl (fun j u hu => ?_) (by simp [Value.oneCell']) (by simp only [maxLen]; omega) (by omega) (by rw [World.size_alloc]; omega) (fun v' w' h1 h2 _ => h v' w' h1 (grown_trans (World.grownBy_alloc w0 _ _) h2))
  have : j = 0 := by
    have := (List.getElem?_eq_some_iff.1 hu).1
    simp at this
    omega
  subst this
  have h1 := (Blk.new w0 e0 #[.int .i64 y]).cell 0
  rw [show (⟨w0.heap.size, 0, none⟩ : Addr).add 0 = ⟨w0.heap.size, 0, none⟩ by simp [Addr.add], h1]
  simpa using hu

set_option maxRecDepth 100000 in
set_option maxHeartbeats 600000 in
theorem digits_is (w : World) (d : List Int) (hd : d.length = 16) (hr : ∀ z ∈ d, 0 ≤ z ∧ z < 256) : Calls Tryz.prog 109 #[.agg (arrV .u8 d)] w fun e w' =>
    ∃ g cap, e = .returned (.slice (some ⟨g, 0, none⟩) 68 cap) ∧ (∀ j, j < 68 → w'.cell? ⟨g, j, none⟩ = some (.int .i64 ((digitsS d).getD j 0))) ∧ w.heap.size ≤ g ∧ w.grownBy w' none := by
  obtain ⟨ds, hds⟩ : ∃ ds, ds = arrV .u8 d := ⟨_, rfl⟩
  have hsz : ds.size = 16 := by rw [hds, arr_size, hd]
  have HI := Lib.hid (show (Tryz.prog.info? 24).map (·.size) = some ds.size by rw [hsz]; kernel_rfl)
  have HD := Lib.hid (And.intro hds (And.intro hd hr))
  obtain ⟨i0, hi0, hz0, hz1, hz2⟩ := info_parts int_infoK21
  have HI0 := Lib.hid (And.intro hi0 (And.intro hz0 (And.intro hz1 hz2)))
  rw [← hds]
  have hB0 := Blk.new w 24 ds
  have hG0 := World.grownBy_alloc w (.cells ds 24) none
  obtain ⟨w1, hmk, hown, hg1⟩ := run_make_own (P := Tryz.prog) (w.alloc (.cells ds 24)) w.heap.size 153 3 i0 (.int .i64 0) 1 Tryz.underlying153 hi0 hz0 hz1 .i64 .i64 68 (by rw [hz2]; decide) (by decide) (by simp)
  have HB1 := Lib.hid (hB0.grown hg1 (by simp))
  have HG1 := Lib.hid (grown_trans hG0 hg1)
  rw [World.size_alloc, show ((68 : Nat) : Int) = 68 from rfl] at hmk
  rw [World.size_alloc] at hown
  have HOWN := Lib.hid hown
  clear hds hsz hd hr hi0 hz0 hz1 hz2 hB0 hG0 hown hg1
  go_enter Tryz.func109, Tryz.ntmps109
  go_wp2_with (refine wpList_load_row rfl 24 _ rfl w.heap.size rfl 24 ds (0, 0) _ HB1.out Tryz.underlying24 rfl HI.out ?_)
  go_loopw [12, 3, 4] (fun i v z wr => ∃ k : Nat, k ≤ 16 ∧ i = .int .i64 (k : Int) ∧ wr.ownsRow w.heap.size 3 1 v (4 * k) ((digsS (d.take k)).map (Value.int .i64)) ∧ z = .int .i64 (sumD (digsS (d.take k))) ∧ w.grownBy wr none) (fun i _ _ _ => 16 - (intOf i).toNat)
  case atStart => exact ⟨0, by omega, rfl, HOWN.out, rfl, HG1.out⟩
  case round =>
    obtain ⟨k, hk, hi, hown, hz, hK⟩ := hrel
    obtain ⟨I, hI⟩ : ∃ I : Int, I = (k : Int) := ⟨_, rfl⟩
    rw [← hI] at hi
    obtain ⟨S, hS⟩ : ∃ S : Int, S = sumD (digsS (d.take k)) := ⟨_, rfl⟩
    rw [← hS] at hz
    subst hi hz
    have hSr := sumD_range (d.take k)
    rw [← hS, List.length_take, HD.out.2.1, Nat.min_eq_left hk] at hSr
    by_cases hlt : k < 16
    · have d1 : decide (I < 16) = true := by simp; omega
      have hkI : I.toNat = k := by omega
      obtain ⟨c, hc⟩ : ∃ c, c = d.getD k 0 := ⟨_, rfl⟩
      have hcr : 0 ≤ c ∧ c < 256 := by
        rw [hc, List.getD, List.getElem?_eq_getElem (by rw [HD.out.2.1]; exact hlt)]
        exact HD.out.2.2 _ (List.getElem_mem _)
      have kx := index16 wr (I := I) (cs := ds) (v := .int .u8 c) ⟨by omega, by omega⟩ (by rw [HD.out.1, hkI, hc]; exact arr_get (by rw [HD.out.2.1]; exact hlt))
      have hnext := digsS_take d k (by rw [HD.out.2.1]; exact hlt)
      rw [← hc] at hnext
      have hI16 : 0 ≤ I ∧ I < 16 := by omega
      have HK := Lib.hid (And.intro hI (And.intro hlt (And.intro hnext (And.intro hS (And.intro hSr (And.intro hcr hI16))))))
      have HOW := Lib.hid hown
      have HG := Lib.hid hK
      clear hI hlt hnext hS hSr hkI hc hown hK hk hI16
      go_wp2_with fail
      refine (base4_is wr c (by have := HK.out; omega)).mono ?_
      rintro e w2 ⟨rfl, hk2⟩
      obtain ⟨c4, hc4⟩ : ∃ c4, c4 = arrV .i64 (dig4 c) := ⟨_, rfl⟩
      rw [← hc4]
      have HC4 := Lib.hid hc4
      have HO2 := Lib.hid (own_keep HOW.out hk2)
      have HG2 := Lib.hid (grown_trans HG.out hk2)
      clear hc4 hk2 kx
      go_wp2_with fail
      go_loopw [18, 3, 4] (fun j v z wr => ∃ m : Nat, m ≤ 4 ∧ j = .int .i64 (m : Int) ∧ wr.ownsRow w.heap.size 3 1 v (4 * k + m) ((digsS (d.take k) ++ (dig4 c).take m).map (Value.int .i64)) ∧ z = .int .i64 (S + sumD ((dig4 c).take m)) ∧ w.grownBy wr none) (fun j _ _ _ => 4 - (intOf j).toNat)
      case atStart => exact ⟨0, by omega, rfl, by simpa using HO2.out, by simp [sumD], HG2.out⟩
      case round =>
        obtain ⟨m, hm, hj, hown, hz, hK⟩ := hrel
        obtain ⟨J, hJ⟩ : ∃ J : Int, J = (m : Int) := ⟨_, rfl⟩
        rw [← hJ] at hj
        obtain ⟨T, hT⟩ : ∃ T : Int, T = S + sumD ((dig4 c).take m) := ⟨_, rfl⟩
        rw [← hT] at hz
        subst hj hz
        by_cases hlt : m < 4
        · have d2 : decide (J < 4) = true := by simp; omega
          have hmJ : J.toNat = m := by omega
          obtain ⟨x, hx⟩ : ∃ x, x = (dig4 c).getD m 0 := ⟨_, rfl⟩
          have hxr : 0 ≤ x ∧ x ≤ 3 := by
            have hcs : m = 0 ∨ m = 1 ∨ m = 2 ∨ m = 3 := by omega
            rw [hx]
            rcases hcs with rfl | rfl | rfl | rfl <;> simp [dig4] <;> omega
          have kx := index4 wr (I := J) (cs := c4) (v := .int .i64 x) ⟨by omega, by omega⟩ (by rw [HC4.out, hmJ, hx]; exact arr_get (by rw [dig4_length]; exact hlt))
          have hpush := take_push4 (dig4 c) m (by rw [dig4_length]; exact hlt)
          rw [← hx] at hpush
          have hTr : 0 ≤ T ∧ T ≤ 300 := by
            have h1 := HK.out.2.2.2.2.1
            have hcs : m = 0 ∨ m = 1 ∨ m = 2 ∨ m = 3 := by omega
            rw [hT]
            have hh := HK.out.2.1
            rcases hcs with rfl | rfl | rfl | rfl <;> simp [dig4, sumD] <;> omega
          have HJ := Lib.hid (And.intro hJ (And.intro hlt (And.intro hpush (And.intro hT hm))))
          have HO := Lib.hid hown
          have HG3 := Lib.hid hK
          have hJ4 : 0 ≤ J ∧ J < 4 := by omega
          clear hJ hlt hpush hT hm hown hK hx hmJ
          go_wp2_with (at_builtin; refine wpList_append_one rfl _ _ 153 rfl w.heap.size 3 _ i0 Tryz.underlying153 HI0.out.1 HI0.out.2.1 HI0.out.2.2.1 HI0.out.2.2.2 _ _ _ rfl HO.out x rfl (by have := HJ.out.2.1; have := HK.out.2.1; omega) HG3.out.size ?_; intro v' w4 hown4 hgrow; have HO4 := Lib.hid hown4; have HG4 := Lib.hid (grown_own HG3.out hgrow HO.out (Nat.le_refl _)); clear hown4 hgrow)
          go_wp2_with fail
          go_roundw
          case rel =>
            obtain ⟨hJ, hlt, hpush, hT, hm⟩ := HJ.out
            refine ⟨m + 1, by omega, by rw [hJ]; rfl, ?_, ?_, HG4.out⟩
            · rw [hpush, ← List.append_assoc, List.map_append]; exact HO4.out
            · rw [hpush, sumD_append, ← Int.add_assoc, ← hT]; simp [sumD]
          case measure => obtain ⟨hJ, hlt, hpush, hT, hm⟩ := HJ.out; simp [intOf]; omega
        · have d2 : decide (J < 4) = false := by simp; omega
          obtain rfl : m = 4 := by omega
          have ht4 : (dig4 c).take 4 = dig4 c := rfl
          rw [ht4] at hown hT
          clear ht4
          have HO := Lib.hid hown
          have HG3 := Lib.hid hK
          have HT := Lib.hid hT
          have hI16 := HK.out.2.2.2.2.2.2
          clear hown hK hT hlt hm hJ
          go_wp2_with fail
          go_roundw
          case rel =>
            obtain ⟨hI, hlt, hnext, hS, hSr, hcr, _⟩ := HK.out
            refine ⟨k + 1, by omega, by rw [hI]; rfl, ?_, ?_, HG3.out⟩
            · rw [hnext, show 4 * (k + 1) = 4 * k + 4 by omega]; exact HO.out
            · rw [hnext, sumD_append, ← hS, ← HT.out]
          case measure => obtain ⟨hI, hlt, _⟩ := HK.out; simp [intOf]; omega
    · have d1 : decide (I < 16) = false := by simp; omega
      obtain rfl : k = 16 := by omega
      rw [List.take_of_length_le (by rw [HD.out.2.1]; exact Nat.le_refl _)] at hown hS
      have HOW := Lib.hid hown
      have HG := Lib.hid hK
      have HS := Lib.hid (And.intro hS hSr)
      clear hI hlt hown hK hS hSr hk
      go_wp2_with fail
      refine (base4_is wr S (by have := HS.out; omega)).mono ?_
      rintro e w2 ⟨rfl, hk2⟩
      obtain ⟨c4, hc4⟩ : ∃ c4, c4 = arrV .i64 (dig4 S) := ⟨_, rfl⟩
      rw [← hc4]
      have hsz4 : c4.size = 4 := by rw [hc4]; rfl
      have HI4 := Lib.hid (show (Tryz.prog.info? 204).map (·.size) = some c4.size by rw [hsz4]; kernel_rfl)
      have HS4 := Lib.hid (And.intro hsz4 (show (c4.all fun x => x.oneCell') = true by rw [hc4]; simp [arrV, Value.oneCell']))
      have HB4 := Lib.hid (fun o => Blk.row (Blk.new w2 204 o) c4)
      have HC4 := Lib.hid hc4
      have HO2 := Lib.hid (fun o => own_keep HOW.out (grown_row (grown_trans hk2 (World.grownBy_alloc w2 o none)) (g := w2.heap.size) (.inl hk2.size) c4))
      have HG2 := Lib.hid (fun o => grown_row (grown_trans (grown_trans HG.out hk2) (World.grownBy_alloc w2 o none)) (g := w2.heap.size) (.inl (grown_trans HG.out hk2).size) c4)
      have HZ := Lib.hid (show w.heap.size ≤ w2.heap.size from (grown_trans HG.out hk2).size)
      have hsa : ∀ w b, Sem.run Tryz.prog (Instr.sliceAt 204 (.pointer (some ⟨b, 0, none⟩)) none none none) w = .ok (.slice (some ⟨b, 0, none⟩) 4 4) w := fun w b => arr_slice_all Tryz.underlying204 (by kernel_rfl)
      clear hk2 hsz4 hc4
      go_wp2_with (first
        | (refine wpList_store_row rfl 204 _ _ rfl w2.heap.size c4 rfl rfl 204 _ (heap_alloc_new w2 _) HI4.out (by rw [HS4.out.1]; simp) HS4.out.2 ?_)
        | (at_builtin; refine wpList_append_own _ rfl _ _ 153 rfl w.heap.size 3 i0 (.int .i64 0) 1 8 Tryz.underlying153 HI0.out.1 HI0.out.2.1 HI0.out.2.2.1 HI0.out.2.2.2 rfl (by decide) _ _ _ rfl (HO2.out _) ⟨w2.heap.size, 0, none⟩ 4 4 c4.toList rfl (show c4.toList.length = 4 * 1 by rw [Array.length_toList]; exact HS4.out.1) (fun j u hu => by rw [addr_zero_addK20, (HB4.out _).cell j, ← Array.getElem?_toList]; exact hu) (by rw [HC4.out]; simp [Value.oneCell']) (by simp only [maxLen]; omega) (by omega) (by rw [setRow_size, World.size_alloc]; have := HZ.out; omega) ?_; intro v' w4 hown4 hgrow _))
      have hfin : w4.ownsRow w.heap.size 3 1 v' 68 ((digitsS d).map (Value.int .i64)) := by
        rw [digitsS, ← HS.out.1, List.map_append]
        rw [HC4.out] at hown4
        exact hown4
      obtain ⟨g, cap, rfl, hg, hcell⟩ := own_some hfin (by omega)
      have hG4 := grown_own (HG2.out _) hgrow (HO2.out _) (Nat.le_refl _)
      go_ret
      exact ⟨g, cap, rfl, hcell, hg, hG4⟩
end Go.Proofs.YtmoebkdbnldbdaaGreatDoor
/-
  quorateref03.Digits and quoratenum.SameInts.
-/

namespace Go.Proofs.YtmoebkdbnldbdaaGreatDoor
open Go.RowKit

theorem wpList_append_one_at {P : Program} {w0 : World} {ops : Array Oper} {rest : List Oper} {o : Oper} {a : Act} {Q : Exit → Act → World → Prop} (hgd : o.guard = none) (s x : Operand) (t : TypeId)
    (ho : o.op = .call { callee := .builtin .append, args := #[s, x], argTypes := #[t, t] }) (base : Nat) (e e0 : TypeId) (i : TypeInfo) (ht : P.underlying t = some (.slice e)) (hi : P.info? e = some i) (hz : i.zero = some (.int .i64 0)) (hsize : i.size = 1) (hby : i.bytes = 8)
    (v : Value) (n : Nat) (xs : List Value) (hs : a.eval s = v) (hown : w0.ownsRow base e 1 v n xs) (y : Int) (hx : a.eval x = .slice (some ⟨w0.heap.size, 0, none⟩) 1 1) (hn : n ≤ 1000) (hbase : base ≤ w0.heap.size)
    (h : ∀ v' w', w'.ownsRow base e 1 v' (n + 1) (xs ++ [.int .i64 y]) → w0.grownBy w' v.ownBlock → (v'.ownBlock = v.ownBlock ∨ v'.ownBlock = some (w0.heap.size + 1)) → wpList P ops Q rest (a.put o.dst v') w') : wpList P ops Q (o :: rest) a (w0.alloc (.cells #[.int .i64 y] e0)) := by
  refine wpList_append_own_at _ hgd s x t ho base e i (.int .i64 0) 1 8 ht hi hz hsize hby rfl (by omega) v n xs hs (hown.alloc _) ⟨w0.heap.size, 0, none⟩ 1 1 [.int .i64 y] hx rfl (fun j u hu => ?_) (by simp [Value.oneCell']) (by simp only [maxLen]; omega) (by omega) (by rw [World.size_alloc]; omega) (fun v' w' h1 h2 _ h4 => h v' w' h1 (grown_trans (World.grownBy_alloc w0 _ _) h2) (by rw [World.size_alloc] at h4; exact h4))
  have : j = 0 := by
    have := (List.getElem?_eq_some_iff.1 hu).1
    simp at this
    omega
  subst this
  have h1 := (Blk.new w0 e0 #[.int .i64 y]).cell 0
  rw [addr_zero_addK20, h1]
  simpa using hu

def units : List Int := [64, 16, 4, 1]

end Go.Proofs.YtmoebkdbnldbdaaGreatDoor
/-
  quorateref03.Recover.
-/
namespace Go.Proofs.YtmoebkdbnldbdaaGreatDoor
open Go.RowKit

/-- What chain j ends with. -/
def endC (ps : List (List Int)) (d : List Int) (lf : Int) (j : Nat) : List Int := runC (ps.getD j zeroC) lf (j : Int) ((digitsS d).getD j 0) (3 - (digitsS d).getD j 0).toNat
theorem endC_dig {ps : List (List Int)} (h : ∀ p ∈ ps, isDig p) (d : List Int) (lf : Int) (j : Nat) : isDig (endC ps d lf j) := by
  rw [endC]; exact runC_dig _ _ _ _ (getD_dig h j) _
def recC (lf : Int) (ps : List (List Int)) (d : List Int) : List Int := pubC lf (rowC (endC ps d lf) 68)
end Go.Proofs.YtmoebkdbnldbdaaGreatDoor
