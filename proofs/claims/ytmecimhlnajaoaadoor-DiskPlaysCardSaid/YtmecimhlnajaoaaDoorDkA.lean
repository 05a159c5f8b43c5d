/-
  Disk: the chapter's example.
-/
import Derived.Test.YtmecimhlnajaoaaDoorDkD
namespace Go.Proofs.YtmecimhlnajaoaaDoor
open Go.RowKit Go.Maps

def al1 : DkS := wrS (newS 2) 0 (firstR 1)
def al2 : DkS := syncS al1
def al3 : DkS := wrS al2 1 (firstR 2)
def al4 : DkS := crashS al3 []
theorem al_reads : rE al4 0 = 0 ∧ rE al4 1 = 0 ∧ rV al4 0 = firstR 1 ∧ rV al4 1 = firstR 0 ∧ wE (newS 2) 0 = 0 ∧ wS (newS 2) 0 (firstR 1) = al1 ∧ sE al1 = 0 ∧ sS al1 = al2 ∧ wE al2 1 = 0 ∧ wS al2 1 (firstR 2) = al3 := by
  refine ⟨by kernel_rfl, by kernel_rfl, by kernel_rfl, by kernel_rfl, by kernel_rfl, by kernel_rfl, by kernel_rfl, by kernel_rfl, by kernel_rfl, by kernel_rfl⟩
theorem first_cell (x : Int) (es : Array Value) (h : ((firstR x).map (Value.int .u8)).toArray = es) : es.size = 64 ∧ es.all (·.oneCell') = true ∧ es[0]? = some (.int .u8 x) := by
  subst h
  exact ⟨by simp [firstR], by simp [Array.all_eq_true_iff_forall_mem, Value.oneCell'], by simp [firstR]⟩
set_option maxRecDepth 100000 in
set_option maxHeartbeats 1000000 in
theorem alive_is (w : World) (er ep : Addr) (her : ErrAt w w.heap.size 0 er) (hep : ErrAt w w.heap.size 5 ep) :
    Calls Tryd.prog 8 #[] w fun e w' => e = .returned (.bool true) ∧ w.grownBy w' none := by
  obtain ⟨e1, he1⟩ : ∃ es, ((firstR 1).map (Value.int .u8)).toArray = es := ⟨_, rfl⟩
  obtain ⟨e2, he2⟩ : ∃ es, ((firstR 2).map (Value.int .u8)).toArray = es := ⟨_, rfl⟩
  obtain ⟨e0, he0⟩ : ∃ es, ((firstR 0).map (Value.int .u8)).toArray = es := ⟨_, rfl⟩
  have hL1 : (#[Value.int .u8 (1), Value.int .u8 0, Value.int .u8 0, Value.int .u8 0, Value.int .u8 0, Value.int .u8 0, Value.int .u8 0, Value.int .u8 0, Value.int .u8 0, Value.int .u8 0, Value.int .u8 0, Value.int .u8 0, Value.int .u8 0, Value.int .u8 0, Value.int .u8 0, Value.int .u8 0, Value.int .u8 0, Value.int .u8 0, Value.int .u8 0, Value.int .u8 0, Value.int .u8 0, Value.int .u8 0, Value.int .u8 0, Value.int .u8 0, Value.int .u8 0, Value.int .u8 0, Value.int .u8 0, Value.int .u8 0, Value.int .u8 0, Value.int .u8 0, Value.int .u8 0, Value.int .u8 0, Value.int .u8 0, Value.int .u8 0, Value.int .u8 0, Value.int .u8 0, Value.int .u8 0, Value.int .u8 0, Value.int .u8 0, Value.int .u8 0, Value.int .u8 0, Value.int .u8 0, Value.int .u8 0, Value.int .u8 0, Value.int .u8 0, Value.int .u8 0, Value.int .u8 0, Value.int .u8 0, Value.int .u8 0, Value.int .u8 0, Value.int .u8 0, Value.int .u8 0, Value.int .u8 0, Value.int .u8 0, Value.int .u8 0, Value.int .u8 0, Value.int .u8 0, Value.int .u8 0, Value.int .u8 0, Value.int .u8 0, Value.int .u8 0, Value.int .u8 0, Value.int .u8 0, Value.int .u8 0] : Array Value) = e1 := by rw [← he1]; rfl
  have hL2 : (#[Value.int .u8 (2), Value.int .u8 0, Value.int .u8 0, Value.int .u8 0, Value.int .u8 0, Value.int .u8 0, Value.int .u8 0, Value.int .u8 0, Value.int .u8 0, Value.int .u8 0, Value.int .u8 0, Value.int .u8 0, Value.int .u8 0, Value.int .u8 0, Value.int .u8 0, Value.int .u8 0, Value.int .u8 0, Value.int .u8 0, Value.int .u8 0, Value.int .u8 0, Value.int .u8 0, Value.int .u8 0, Value.int .u8 0, Value.int .u8 0, Value.int .u8 0, Value.int .u8 0, Value.int .u8 0, Value.int .u8 0, Value.int .u8 0, Value.int .u8 0, Value.int .u8 0, Value.int .u8 0, Value.int .u8 0, Value.int .u8 0, Value.int .u8 0, Value.int .u8 0, Value.int .u8 0, Value.int .u8 0, Value.int .u8 0, Value.int .u8 0, Value.int .u8 0, Value.int .u8 0, Value.int .u8 0, Value.int .u8 0, Value.int .u8 0, Value.int .u8 0, Value.int .u8 0, Value.int .u8 0, Value.int .u8 0, Value.int .u8 0, Value.int .u8 0, Value.int .u8 0, Value.int .u8 0, Value.int .u8 0, Value.int .u8 0, Value.int .u8 0, Value.int .u8 0, Value.int .u8 0, Value.int .u8 0, Value.int .u8 0, Value.int .u8 0, Value.int .u8 0, Value.int .u8 0, Value.int .u8 0] : Array Value) = e2 := by rw [← he2]; rfl
  obtain ⟨zs, hzs⟩ : ∃ zs : Array Value, zs = (zeroR.map (Value.int .u8)).toArray := ⟨_, rfl⟩
  have hz : ∀ w, Sem.run Tryd.prog (zeroValue 36) w = .ok (.agg zs) w := fun w => by rw [hzs]; exact zero_sec w (by kernel_rfl)
  have hzz : zs.size = 64 := by rw [hzs]; simp [zeroR]
  have HE := Lib.hid (And.intro her (And.intro hep (And.intro he1 (And.intro he2 (And.intro he0 (And.intro (first_cell 1 e1 he1) (And.intro (first_cell 0 e0 he0) hzz)))))))
  have HN := Lib.hid (dsk_new w w (Kept.refl _ _) 2 (by omega) er her)
  have HZ := Lib.hid hz
  have AR := Lib.hid al_reads
  clear her hep he1 he2 he0 hzs hzz hz
  refine (callsIn_wide (n := 9)).1 ?_
  refine callsIn_of_wp Tryd.func8 rfl trivial ?_ rfl
  simp only [Tryd.ntmps8, List.size_toArray, List.length_cons, List.length_nil, Nat.reduceAdd, Nat.reduceSub, Array.replicate_succ, Array.replicate_zero, List.push_toArray, List.append_toArray, List.nil_append, List.cons_append]
  gi_wp2
  refine ⟨trivial, ?_⟩
  refine (callsIn_wide.2 HN.out).mono ?_
  rintro e w1 ⟨k1, d, b, m, rfl, hd, _⟩
  have H1 := Lib.hid hd
  clear k1 hd
  gi_wp2
  refine ⟨trivial, ?_⟩
  refine (callsIn_wide.2 (dsk_write0 H1.out HE.out.1 HE.out.2.1 0 (firstR 1) (firstR_len 1) AR.out.2.2.2.2.1 AR.out.2.2.2.2.2.1 e1 HE.out.2.2.1)).mono ?_
  rintro e w2 ⟨rfl, hd, _⟩
  have H2 := Lib.hid hd
  clear hd
  gi_wp2
  refine ⟨trivial, ?_⟩
  refine (callsIn_wide.2 (dsk_sync0 H2.out HE.out.2.1 AR.out.2.2.2.2.2.2.1 AR.out.2.2.2.2.2.2.2.1)).mono ?_
  rintro e w3 ⟨rfl, hd, _⟩
  have H3 := Lib.hid hd
  clear hd
  gi_wp2
  refine ⟨trivial, ?_⟩
  refine (callsIn_wide.2 (dsk_write0 H3.out HE.out.1 HE.out.2.1 1 (firstR 2) (firstR_len 2) AR.out.2.2.2.2.2.2.2.2.1 AR.out.2.2.2.2.2.2.2.2.2 e2 HE.out.2.2.2.1)).mono ?_
  rintro e w4 ⟨rfl, hd, _⟩
  have H4 := Lib.hid hd
  clear hd
  gi_wp2
  refine ⟨trivial, ?_⟩
  refine (callsIn_wide.2 (dsk_crash0 H4.out (show crashS al3 [] = al4 from rfl))).mono ?_
  rintro e w5 ⟨rfl, hd, _⟩
  have H5 := Lib.hid hd
  clear hd
  gi_wp2
  refine ⟨trivial, ?_⟩
  refine (callsIn_wide.2 (dsk_read0 H5.out HE.out.1 HE.out.2.1 0 AR.out.1 (firstR 1) AR.out.2.2.1 e1 HE.out.2.2.1)).mono ?_
  rintro e w6 ⟨rfl, hg6⟩
  have H6 := Lib.hid (H5.out.grown hg6)
  clear hg6
  have hz := HZ.out
  gi_wp2_with (first
    | (refine wpListIn_store_row rfl 36 _ _ rfl w6.heap.size e1 rfl rfl 36 zs (heap_alloc_new w6 _) (by rw [HE.out.2.2.2.2.2.1.1]; kernel_rfl) (by rw [HE.out.2.2.2.2.2.1.1, HE.out.2.2.2.2.2.2.2]) HE.out.2.2.2.2.2.1.2.1 ?_)
    | gi_in)
  obtain ⟨p6, hp6⟩ : ∃ p6, w6.heap.size = p6 := ⟨_, rfl⟩
  obtain ⟨W6, hW6⟩ : ∃ W6, (w6.alloc (.cells zs 36)).setRow p6 e1 = W6 := ⟨_, rfl⟩
  have gW6 : w6.grownBy W6 none := by rw [← hW6]; exact grown_row (World.grownBy_alloc _ _ none) (.inl (by omega)) _
  have bW6 : Blk W6 p6 36 e1 := by rw [← hW6, ← hp6]; exact (Blk.new w6 _ _).row e1
  have H7 := Lib.hid (And.intro (H6.out.grown gW6) bW6)
  clear gW6 bW6
  rw [hp6, hW6]
  refine ⟨trivial, ?_⟩
  refine (callsIn_wide.2 (dsk_read0 H7.out.1 HE.out.1 HE.out.2.1 1 AR.out.2.1 (firstR 0) AR.out.2.2.2.1 e0 HE.out.2.2.2.2.1)).mono ?_
  rintro e w7 ⟨rfl, hg7⟩
  have H8 := Lib.hid (And.intro (H7.out.1.grown hg7) (H7.out.2.grown hg7 (by simp)))
  clear hg7 hp6 hW6
  gi_upto_region 7 with (first
    | (refine wpListIn_store_row rfl 36 _ _ rfl w7.heap.size e0 rfl rfl 36 zs (heap_alloc_new w7 _) (by rw [HE.out.2.2.2.2.2.2.1.1]; kernel_rfl) (by rw [HE.out.2.2.2.2.2.2.1.1, HE.out.2.2.2.2.2.2.2]) HE.out.2.2.2.2.2.2.1.2.1 ?_)
    | gi_in)
  obtain ⟨p7, hp7⟩ : ∃ p7, w7.heap.size = p7 := ⟨_, rfl⟩
  obtain ⟨W8, hW8⟩ : ∃ W8, (w7.alloc (.cells zs 36)).setRow p7 e0 = W8 := ⟨_, rfl⟩
  have gW8 : w7.grownBy W8 none := by rw [← hW8]; exact grown_row (World.grownBy_alloc _ _ none) (.inl (by omega)) _
  have bW8 : Blk W8 p7 36 e0 := by rw [← hW8, ← hp7]; exact (Blk.new w7 _ _).row e0
  have x6 := (H8.out.2.grown gW8 (by simp)).cell 0
  have x7 := bW8.cell 0
  rw [HE.out.2.2.2.2.2.1.2.2] at x6
  rw [HE.out.2.2.2.2.2.2.1.2.2] at x7
  have H9 := Lib.hid (H8.out.1.grown gW8)
  clear gW8 bW8 hz
  rw [hp7, hW8]
  clear hp7 hW8
  gi_wp2
  go_ret
  exact ⟨rfl, H9.out.grownNone⟩
end Go.Proofs.YtmecimhlnajaoaaDoor
