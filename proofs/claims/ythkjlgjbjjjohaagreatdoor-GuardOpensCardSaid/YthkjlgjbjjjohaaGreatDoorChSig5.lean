/-
  Several texts in one: ChS, ChQ, ChU, ChX, ChY.
-/
import Derived.Test.YthkjlgjbjjjohaaGreatDoorChA5
import Derived.Test.YthkjlgjbjjjohaaGreatDoorChRec5
import Derived.Test.YthkjlgjbjjjohaaGreatDoorBaseA
import Derived.Test.YthkjlgjbjjjohaaGreatDoorDiA
import Derived.Laws.MakeOwn
import Derived.Test.YthkjlgjbjjjohaaGreatDoorErrA
/-
  chains.secrets: a leaf's chains, each with its secret, as an iterator.
-/

namespace Go.Proofs.YthkjlgjbjjjohaaGreatDoor
open Go.RowKit Go.Shelf

attribute [local go_sem] Oper.semAt_some

/-- What a round of a range over the secrets keeps: the table of the rounds, the boxes of the seed and the leaf. -/
def KpS (b1 b2 : Nat) (A B : World) : Prop := (Rounds A → Rounds B) ∧ B.heap[b1]? = A.heap[b1]? ∧ B.heap[b2]? = A.heap[b2]?
theorem KpS.refl {b1 b2 : Nat} (A : World) : KpS b1 b2 A A := ⟨id, rfl, rfl⟩
theorem KpS.trans {b1 b2 : Nat} {A B C : World} (h : KpS b1 b2 A B) (k : KpS b1 b2 B C) : KpS b1 b2 A C := ⟨fun r => k.1 (h.1 r), k.2.1.trans h.2.1, k.2.2.trans h.2.2⟩
theorem KpS.grown {b1 b2 : Nat} {A B : World} {row : Option Nat} (hg : A.grownBy B row) (hr : row ≠ some 18) (h1 : b1 < A.heap.size) (h2 : b2 < A.heap.size) (n1 : row ≠ some b1) (n2 : row ≠ some b2) : KpS b1 b2 A B :=
  ⟨fun r => r.grown hg (fun e => hr e.symm), hg.block b1 h1 (fun e => n1 e.symm), hg.block b2 h2 (fun e => n2 e.symm)⟩

theorem secrets_in (F : Fence) (m : Nat) (ds : Array Value) (lf : Int) (w : World) (h : F = Fence.wide) : CallsIn F m Tryz.prog 67 #[.agg ds, .int .i64 lf] w fun e w' => e = .returned (.func (.func 104) #[] #[.pointer (some ⟨w.heap.size, 0, none⟩), .pointer (some ⟨w.heap.size + 1, 0, none⟩)]) ∧
      w' = (w.alloc (.cells ds 23)).alloc (.cells #[.int .i64 lf] 3) := by
  subst h
  refine callsIn_of_wp Tryz.func67 rfl trivial ?_ rfl
  simp only [Tryz.ntmps67, List.size_toArray, List.length_cons, List.length_nil, Nat.reduceAdd, Nat.reduceSub, Array.replicate_succ, Array.replicate_zero, List.push_toArray, List.append_toArray, List.nil_append, List.cons_append]
  gi_wp2
  go_ret
  exact ⟨rfl, rfl⟩
theorem secret_v (w : World) (hR : Rounds w) (seed : List Int) (hs : isDig seed) (lf i : Int) (ds rs : Array Value) (h1 : ds = arrV .u8 seed) (h2 : rs = arrV .u8 (secC seed lf i)) :
    Calls Tryz.prog 105 #[.agg ds, .int .i64 lf, .int .i64 i] w fun e w' => e = .returned (.agg rs) ∧ w.grownBy w' none := by
  subst h1 h2
  exact secret_is w hR seed hs.1 lf i
/-- What comes as k-th. -/
def secE (seed : List Int) (lf : Int) (k : Nat) : Array Value := #[.int .i64 (k : Int), .agg (arrV .u8 (secC seed lf k))]

set_option maxRecDepth 100000 in
set_option maxHeartbeats 2000000 in
theorem secrets1_in (m l B1 B2 : Nat) (seed : List Int) (hs : isDig seed) (lf : Int) (J Jx : Nat → World → Prop) (hm : 2 ≤ m)
    (hJ : ∀ s A B, J s A → A.grownBy B none → J s B)
    (hY : ∀ k W, k < 68 → J k W → YieldAt Fence.wide (m - 1) Tryz.prog l (secE seed lf k) W fun e W' =>
      (e = .returned (.bool true) ∧ J (k + 1) W' ∧ KpS B1 B2 W W') ∨ (e = .returned (.bool false) ∧ Jx (k + 1) W'))
    (W : World) (hR : Rounds W) (h1 : Blk W B1 23 (arrV .u8 seed)) (h2 : Blk W B2 3 #[.int .i64 lf]) (h0 : J 0 W) :
    CallsIn Fence.wide m Tryz.prog 104 #[.func (.yield l) #[] #[], .pointer (some ⟨B1, 0, none⟩), .pointer (some ⟨B2, 0, none⟩)] W fun e W' => (∃ v, e = .returned v) ∧
      (J 68 W' ∨ (∃ k, k ≤ 68 ∧ Jx k W')) := by
  obtain ⟨ds, hds⟩ : ∃ ds, ds = arrV .u8 seed := ⟨_, rfl⟩
  have HD := Lib.hid (And.intro hds (And.intro (show ds.size = 16 by rw [hds, arr_size]; exact hs.1) hs))
  rw [← hds] at h1
  have J0 := Lib.hid (And.intro h0 (And.intro hR (And.intro h1 h2)))
  have HJ := Lib.hid hJ
  clear h0 hR h1 h2 hds hs hJ
  refine callsIn_of_wp Tryz.func104 rfl trivial ?_ rfl
  simp only [Tryz.ntmps104, List.size_toArray, List.length_cons, List.length_nil, Nat.reduceAdd, Nat.reduceSub, Array.replicate_succ, Array.replicate_zero, List.push_toArray, List.append_toArray, List.nil_append, List.cons_append]
  gi_wp2
  gi_loopw [5] (fun i wr => ∃ k : Nat, k ≤ 68 ∧ i = .int .i64 (k : Int) ∧ J k wr ∧ Rounds wr ∧ Blk wr B1 23 ds ∧ Blk wr B2 3 #[.int .i64 lf]) (fun i _ => (68 - intOf i).toNat)
  case atStart => exact ⟨0, Nat.zero_le _, rfl, J0.out⟩
  case round =>
    obtain ⟨k, hk, hi', hJs, hRr, hB1, hB2⟩ := hrel
    obtain ⟨I, hI⟩ : ∃ I : Int, I = (k : Int) := ⟨_, rfl⟩
    rw [← hI] at hi'
    subst hi'
    by_cases hlt : k < 68
    · have d1 : decide (I < 68) = true := by simp; omega
      have hI68 : 0 ≤ I ∧ I < 68 := by omega
      obtain ⟨rs, hrs⟩ : ∃ rs, rs = arrV .u8 (secC seed lf I) := ⟨_, rfl⟩
      have HST := Lib.hid (secret_v wr hRr seed HD.out.2.2 lf I ds rs HD.out.1 hrs)
      have HY := Lib.hid (fun V (h : J k V) => by
        have := hY k V hlt h
        rw [secE, ← hI, ← hrs] at this
        exact this)
      have HB := Lib.hid (And.intro hJs (And.intro hRr hB1))
      have c2 := hB2.cell 0
      simp only [List.getElem?_toArray, List.getElem?_cons_zero] at c2
      have HB2 := Lib.hid hB2
      have HI := Lib.hid (And.intro hI hlt)
      clear hI hlt hk hJs hRr hB1 hB2 hrs hY
      gi_wp2_with (refine wpListIn_load_row rfl 23 _ rfl B1 rfl 23 ds (0, 0) _ HB.out.2.2 Tryz.underlying23 rfl (by rw [HD.out.2.1]; exact info16) ?_)
      refine ⟨trivial, fun _ => by omega, ?_⟩
      refine (callsIn_wide.2 HST.out).mono ?_
      rintro e W2 ⟨rfl, hk2⟩
      obtain ⟨fn, tmps, assign, body, hy, hR⟩ := HY.out W2 (HJ.out _ _ _ HB.out.1 hk2)
      have HB2b := Lib.hid (And.intro (HB.out.2.1.grown hk2 (by simp)) (And.intro (HB.out.2.2.grown hk2 (by simp)) (HB2.out.grown hk2 (by simp))))
      clear hk2
      gi_wp2
      refine ⟨fun _ => by omega, ?_⟩
      refine hR.mono ?_
      rintro e W3 (⟨rfl, hJ3, hk3⟩ | ⟨rfl, hJx3⟩)
      · have HJ3 := Lib.hid hJ3
        have HK3 := Lib.hid hk3
        clear hJ3 hk3
        gi_wp2
        go_roundw
        case rel =>
          obtain ⟨hI, hlt⟩ := HI.out
          exact ⟨k + 1, by omega, by rw [hI]; rfl, HJ3.out, HK3.out.1 HB2b.out.1, HK3.out.2.1.trans HB2b.out.2.1, HK3.out.2.2.trans HB2b.out.2.2⟩
        case measure => simp only [intOf]; omega
      · gi_wp2
        refine bodyPost_ret (results_none rfl _ _ _) rfl ?_
        exact ⟨⟨_, rfl⟩, .inr ⟨k + 1, by have := HI.out; omega, hJx3⟩⟩
    · have d1 : decide (I < 68) = false := by simp; omega
      obtain rfl : k = 68 := by omega
      have HJ6 := Lib.hid hJs
      clear hI hlt hk hJs hY hRr hB1 hB2
      gi_wp2
      go_end0
      exact ⟨⟨_, rfl⟩, .inl HJ6.out⟩
theorem secrets_seq (m : Nat) (hm : 2 ≤ m) (B1 B2 : Nat) (seed : List Int) (hs : isDig seed) (lf : Int) (w : World) (hR : Rounds w) (h1 : Blk w B1 23 (arrV .u8 seed)) (h2 : Blk w B2 3 #[.int .i64 lf]) :
    SeqStopsK Fence.wide m Tryz.prog 104 #[.pointer (some ⟨B1, 0, none⟩), .pointer (some ⟨B2, 0, none⟩)] (secE seed lf) (KpS B1 B2)
      (fun ys => ys = upto id 68) (fun _ => True) 68 w := fun l J Jx W hW hJ _ hY h0 =>
  (secrets1_in m l B1 B2 seed hs lf (fun k => J (upto id k)) (fun k => Jx (upto id k)) hm (fun s A B hA hg => hJ _ A B none hA hg (fun _ e => by cases e))
    (fun k W hk hj => by
      have := hY (upto id k) k W hj (by rw [upto_length]; exact hk)
      rw [show upto id k ++ [k] = upto id (k + 1) from (upto_succ id k).symm] at this
      exact this) W
    (by obtain ⟨t, ht⟩ := hR; exact ⟨t, (hW.block _ (Blk.lt ht)).trans ht⟩) ((hW.block _ h1.lt).trans h1) ((hW.block _ h2.lt).trans h2) h0).mono
  (fun e W' h => ⟨h.1, h.2.imp (fun h => ⟨_, rfl, h⟩) (fun ⟨k, _, h⟩ => ⟨_, trivial, h⟩)⟩)
/-- The first k of 68. -/
def upF (k : Nat) : List (Fin 68) := (List.finRange 68).take k
theorem upF_succ (k : Nat) (hk : k < 68) : upF (k + 1) = upF k ++ [⟨k, hk⟩] := by
  rw [upF, upF, List.take_add_one, List.getElem?_eq_getElem (by simpa using hk)]
  simp
theorem upF_length (k : Nat) (hk : k ≤ 68) : (upF k).length = k := by simp [upF, hk]
theorem upF_mem (x : Fin 68) : x ∈ upF 68 := by
  rw [upF, List.take_of_length_le (by simp)]; exact List.mem_finRange x
theorem secrets_seqF (m : Nat) (hm : 2 ≤ m) (B1 B2 : Nat) (seed : List Int) (hs : isDig seed) (lf : Int) (w : World) (hR : Rounds w) (h1 : Blk w B1 23 (arrV .u8 seed)) (h2 : Blk w B2 3 #[.int .i64 lf]) :
    SeqStopsK Fence.wide m Tryz.prog 104 #[.pointer (some ⟨B1, 0, none⟩), .pointer (some ⟨B2, 0, none⟩)] (fun x : Fin 68 => secE seed lf x.1) (KpS B1 B2)
      (fun ys => ∀ x, x ∈ ys) (fun _ => True) 68 w := fun l J Jx W hW hJ _ hY h0 =>
  (secrets1_in m l B1 B2 seed hs lf (fun k => J (upF k)) (fun k => Jx (upF k)) hm (fun s A B hA hg => hJ _ A B none hA hg (fun _ e => by cases e))
    (fun k W hk hj => by
      have := hY (upF k) ⟨k, hk⟩ W hj (by rw [upF_length k (by omega)]; exact hk)
      rw [← upF_succ k hk] at this
      exact this) W
    (by obtain ⟨t, ht⟩ := hR; exact ⟨t, (hW.block _ (Blk.lt ht)).trans ht⟩) ((hW.block _ h1.lt).trans h1) ((hW.block _ h2.lt).trans h2) (by simpa [upF] using h0)).mono
  (fun e W' h => ⟨h.1, h.2.imp (fun h => ⟨_, upF_mem, h⟩) (fun ⟨k, _, h⟩ => ⟨_, trivial, h⟩)⟩)
end Go.Proofs.YthkjlgjbjjjohaaGreatDoor
/-
  A leaf's ends, its public digest, its signatures, as lists of numbers.
-/
namespace Go.Proofs.YthkjlgjbjjjohaaGreatDoor
open Go.RowKit

theorem pubC_isdig (lf : Int) (ends : List Int) : isDig (pubC lf ends) := by rw [pubC]; exact ofS_dig _ _
/-- What chain k of a leaf ends with. -/
def endS (seed : List Int) (lf : Int) (k : Nat) : List Int := runC (secC seed lf k) lf k 0 3
theorem endS_dig (seed : List Int) (lf : Int) (k : Nat) : isDig (endS seed lf k) := by rw [endS]; exact runC_dig _ _ _ _ (secC_dig _ _ _) _
def pubS (seed : List Int) (lf : Int) : List Int := pubC lf (rowC (endS seed lf) 68)
theorem pubS_dig (seed : List Int) (lf : Int) : isDig (pubS seed lf) := by rw [pubS]; exact pubC_isdig _ _
/-- The pieces of these rounds, one behind the other. -/
def rowL (f : Nat → List Int) (pre : List Nat) : List Int := (pre.map f).flatten
theorem rowL_snoc (f : Nat → List Int) (pre : List Nat) (k : Nat) : rowL f (pre ++ [k]) = rowL f pre ++ f k := by simp [rowL]
theorem rowL_upto (f : Nat → List Int) : ∀ n, rowL f (upto id n) = rowC f n
  | 0 => rfl
  | n + 1 => by rw [upto_succ, rowL_snoc, rowL_upto f n, rowC]; rfl
theorem rowC_congr {f g : Nat → List Int} : ∀ n, (∀ k, k < n → f k = g k) → rowC f n = rowC g n
  | 0, _ => rfl
  | n + 1, h => by rw [rowC, rowC, rowC_congr n (fun k hk => h k (by omega)), h n (by omega)]
/-- Digit k of a digest. -/
def digN (d : List Int) (k : Nat) : Nat := ((digitsS d).getD k 0).toNat
theorem dig_range (d : List Int) (k : Nat) : 0 ≤ (digitsS d).getD k 0 ∧ (digitsS d).getD k 0 ≤ 3 := by
  by_cases hl : k < (digitsS d).length
  · rw [List.getD, List.getElem?_eq_getElem hl]
    exact digitsS_range d _ (List.getElem_mem hl)
  · rw [List.getD, List.getElem?_eq_none (by omega)]
    simp
/-- Chain k of a leaf's signature. -/
def sigS (seed : List Int) (lf : Int) (d : List Int) (k : Nat) : List Int := runC (secC seed lf k) lf k 0 (digN d k)
theorem sigS_dig (seed : List Int) (lf : Int) (d : List Int) (k : Nat) : isDig (sigS seed lf d k) := by rw [sigS]; exact runC_dig _ _ _ _ (secC_dig _ _ _) _
def sigsS (seed : List Int) (lf : Int) (d : List Int) : List (List Int) := upto (sigS seed lf d) 68
theorem sigsS_length (seed : List Int) (lf : Int) (d : List Int) : (sigsS seed lf d).length = 68 := upto_length _ _
theorem sigsS_dig (seed : List Int) (lf : Int) (d : List Int) : ∀ p ∈ sigsS seed lf d, isDig p := fun p hp => by
  obtain ⟨k, _, rfl⟩ := List.mem_map.1 hp
  exact sigS_dig _ _ _ _
theorem upto_getD {f : Nat → List Int} {n k : Nat} (h : k < n) : (upto f n).getD k zeroC = f k := by
  simp [upto, List.getD, List.getElem?_map, List.getElem?_range h]
theorem endC_sigs (seed : List Int) (lf : Int) (d : List Int) (k : Nat) (hk : k < 68) : endC (sigsS seed lf d) d lf k = endS seed lf k := by
  obtain ⟨h0, h3⟩ := dig_range d k
  rw [endC, sigsS, upto_getD hk, sigS, endS]
  have := runC_add (secC seed lf k) lf k 0 (digN d k) (3 - (digitsS d).getD k 0).toNat
  rw [show digN d k + (3 - (digitsS d).getD k 0).toNat = 3 by unfold digN; omega, show (0 : Int) + (digN d k : Int) = (digitsS d).getD k 0 by unfold digN; omega] at this
  exact this.symm
/-- A signature is recovered to the public digest. -/
theorem recC_sigs (seed : List Int) (lf : Int) (d : List Int) : recC lf (sigsS seed lf d) d = pubS seed lf := by
  rw [recC, pubS, rowC_congr 68 (fun k hk => endC_sigs seed lf d k hk)]
end Go.Proofs.YthkjlgjbjjjohaaGreatDoor
/-
  chains.Public by a leaf.
-/
namespace Go.Proofs.YthkjlgjbjjjohaaGreatDoor
open Go.RowKit Go.Shelf

attribute [local go_sem] Oper.semAt_some

theorem run_of (w : World) (hR : Rounds w) (seed : List Int) (lf i : Int) (k : Nat) (hi : i = (k : Int)) (cs es : Array Value) (h1 : cs = arrV .u8 (secC seed lf k)) (h2 : es = arrV .u8 (endS seed lf k)) :
    Calls Tryz.prog 68 #[.agg cs, .int .i64 lf, .int .i64 i, .int .i64 0, .int .i64 3] w fun e w' => e = .returned (.agg es) ∧ w.grownBy w' none := by
  subst hi
  exact run_v w hR (secC seed lf k) (secC_dig _ _ _) lf k 0 3 (by omega) (by omega) 3 rfl cs es h1 (by rw [h2, endS])
/-- The row of the ends, in the box of a variable. -/
def EndsIn (W : World) (B base : Nat) (n : Nat) (L : List Int) : Prop := ∃ v, Boxed W B 49 v ∧ W.ownsRow base 5 1 v n (L.map (Value.int .u8)) ∧ True
theorem EndsIn.grown {W W' : World} {B base n : Nat} {L : List Int} (h : EndsIn W B base n L) (hg : W.grownBy W' none) : EndsIn W' B base n L := by
  obtain ⟨v, h1, h2, _⟩ := h
  exact ⟨v, h1.kept hg (by simp), own_keep h2 hg, trivial⟩
theorem ends_own {B0 : Nat} (B base : Nat) (f : Nat → List Int) : OwnFrom B0 (fun (pre : List Nat) W => EndsIn W B base (16 * pre.length) (rowL f pre)) :=
  (holdsRow_own base B 49 5 1 (fun pre : List Nat => 16 * pre.length) (fun pre => (rowL f pre).map (Value.int .u8)) (fun _ _ => True)).from _

set_option maxRecDepth 100000 in
set_option maxHeartbeats 4000000 in
theorem pub_ok (w : World) (hR : Rounds w) (seed : List Int) (hs : isDig seed) (lf : Int) (hlf : 0 ≤ lf ∧ lf < 32) (rs : Array Value) (hrs : rs = arrV .u8 (pubS seed lf)) :
    Calls Tryz.prog 34 #[.agg (arrV .u8 seed), .int .i64 lf] w fun e w' => e = .returned (.tuple #[.agg rs, .nilIface]) ∧ w.grownBy w' none := by
  obtain ⟨Z16, hZ16⟩ : ∃ Z, Z = arrV .u8 (List.replicate 16 0) := ⟨_, rfl⟩
  have hz16 : ∀ w, Sem.run Tryz.prog (zeroValue 23) w = .ok (.agg Z16) w := fun w => by rw [hZ16]; exact z16run w
  have hZs : Z16.size = 16 := by rw [hZ16]; rfl
  obtain ⟨ds, hds⟩ : ∃ ds, ds = arrV .u8 seed := ⟨_, rfl⟩
  rw [← hds]
  obtain ⟨i0, hi0, hz0, hz1, hz2⟩ := info_parts u8i
  have HI0 := Lib.hid (And.intro hi0 (And.intro hz0 (And.intro hz1 hz2)))
  have HD := Lib.hid (show ds = arrV .u8 seed ∧ ds.size = 16 ∧ Z16.size = 16 from ⟨hds, by rw [hds, arr_size, hs.1], hZs⟩)
  have HN := Lib.hid (And.intro hs (And.intro hrs (And.intro hR hlf)))
  clear hZ16 hZs hds hs hrs hR hlf hi0 hz0 hz1 hz2
  refine (callsIn_wide (n := 6)).1 ?_
  refine callsIn_of_wp_marks Tryz.func34 rfl trivial ?_ rfl
  simp only [Tryz.ntmps34, List.size_toArray, List.length_cons, List.length_nil, Nat.reduceAdd, Nat.reduceSub, Array.replicate_succ, Array.replicate_zero, List.push_toArray, List.append_toArray, List.nil_append, List.cons_append]
  gi_wp2
  refine ⟨trivial, ?_⟩
  refine (callsIn_wide.2 (isleaf_yes _ lf HN.out.2.2.2)).mono ?_
  rintro e w1 ⟨rfl, rfl⟩
  have HB0 := Lib.hid (show Blk ((((w.alloc (.cells ds 23)).alloc (.cells #[.int .i64 lf] 3)).alloc (.cells Z16 23)).alloc (.cells #[.slice none 0 0] 49)) w.heap.size 23 ds from (((Blk.new w _ ds).alloc _).alloc _).alloc _)
  gi_wp2_with (refine wpListIn_load_row rfl 23 _ rfl w.heap.size rfl 23 ds (0, 0) _ HB0.out Tryz.underlying23 rfl (by rw [HD.out.2.1]; exact info16) ?_)
  refine ⟨trivial, ?_⟩
  refine (secrets_in _ _ _ _ _ rfl).mono ?_
  rintro e w1 ⟨rfl, rfl⟩
  gi_wp2
  have b1 := Blk.new (w.alloc (.cells ds 23)) 3 #[.int .i64 lf]
  have b2 := Blk.new ((w.alloc (.cells ds 23)).alloc (.cells #[.int .i64 lf] 3)) 23 Z16
  have b3 := Blk.new (((w.alloc (.cells ds 23)).alloc (.cells #[.int .i64 lf] 3)).alloc (.cells Z16 23)) 49 #[.slice none 0 0]
  have b4 := Blk.new ((((w.alloc (.cells ds 23)).alloc (.cells #[.int .i64 lf] 3)).alloc (.cells Z16 23)).alloc (.cells #[.slice none 0 0] 49)) 23 ds
  have b5 := Blk.new (((((w.alloc (.cells ds 23)).alloc (.cells #[.int .i64 lf] 3)).alloc (.cells Z16 23)).alloc (.cells #[.slice none 0 0] 49)).alloc (.cells ds 23)) 3 #[.int .i64 lf]
  simp only [World.size_alloc] at b1 b2 b3 b4 b5
  have c1 := ((((b1.alloc (.cells Z16 23)).alloc (.cells #[.slice none 0 0] 49)).alloc (.cells ds 23)).alloc (.cells #[.int .i64 lf] 3))
  have c2 := (((b2.alloc (.cells #[.slice none 0 0] 49)).alloc (.cells ds 23)).alloc (.cells #[.int .i64 lf] 3))
  have c3 := ((b3.alloc (.cells ds 23)).alloc (.cells #[.int .i64 lf] 3))
  have c4 := (b4.alloc (.cells #[.int .i64 lf] 3))
  have c5 := b5
  have hg0 : w.grownBy ((((((w.alloc (.cells ds 23)).alloc (.cells #[.int .i64 lf] 3)).alloc (.cells Z16 23)).alloc (.cells #[.slice none 0 0] 49)).alloc (.cells ds 23)).alloc (.cells #[.int .i64 lf] 3)) none := (grown_trans (grown_trans (grown_trans (grown_trans (grown_trans (World.grownBy_alloc w _ none) (World.grownBy_alloc _ _ none)) (World.grownBy_alloc _ _ none)) (World.grownBy_alloc _ _ none)) (World.grownBy_alloc _ _ none)) (World.grownBy_alloc _ _ none))
  obtain ⟨W0, hW0⟩ : ∃ W0, ((((((w.alloc (.cells ds 23)).alloc (.cells #[.int .i64 lf] 3)).alloc (.cells Z16 23)).alloc (.cells #[.slice none 0 0] 49)).alloc (.cells ds 23)).alloc (.cells #[.int .i64 lf] 3)) = W0 := ⟨_, rfl⟩
  have hsz : W0.heap.size = w.heap.size + 6 := by rw [← hW0]; simp
  rw [hW0] at hg0 c1 c2 c3 c4 c5 ⊢
  clear b1 b2 b3 b4 b5 hW0
  have hRl := HN.out.2.2.1.lt
  refine wpIn_rangeFunc_ownH rfl (by omega) (gf := 104) (lb := #[.pointer (some ⟨w.heap.size + 1 + 1 + 1 + 1, 0, none⟩), .pointer (some ⟨w.heap.size + 1 + 1 + 1 + 1 + 1, 0, none⟩)]) rfl trivial (enters_of Tryz.func104 (by kernel_rfl) rfl)
    (secrets_seq 5 (by omega) (w.heap.size + 1 + 1 + 1 + 1) (w.heap.size + 1 + 1 + 1 + 1 + 1) seed HN.out.1 lf W0 (HN.out.2.2.1.grown hg0 (by simp)) (by rw [← HD.out.1]; exact c4) c5) (fun h1 h2 => KpS.trans h1 h2)
    (fun W l o o' hl ho hc hw => KpS.grown (grownBy_putObj' W l o') (by intro e; have := Option.some.inj e; omega) (by have := (Array.getElem?_eq_some_iff.1 ho).1; omega) (by have := (Array.getElem?_eq_some_iff.1 ho).1; omega) (by intro e; have := Option.some.inj e; omega) (by intro e; have := Option.some.inj e; omega)) (Below.refl _ _) (fun _ => rfl)
    (fun pre W => Blk W (w.heap.size + 1) 3 #[.int .i64 lf] ∧ (Blk W (w.heap.size + 1 + 1) 23 Z16 ∧ (EndsIn W (w.heap.size + 1 + 1 + 1) (w.heap.size + 6) (16 * pre.length) (rowL (endS seed lf) pre) ∧ W0.grownBy W (some (w.heap.size + 1 + 1 + 1)))))
    (fun _ _ _ => False)
    (OwnFrom.and (ownFrom_blk _) (OwnFrom.and (ownFrom_blk _) (OwnFrom.and (ends_own _ _ _) (ownFrom_grownr (Nat.le_refl _)))))
    (fun _ => ownFrom_pure _)
    ⟨c1, c2, ⟨_, c3, World.ownsRow_nil _ _ _ _, trivial⟩, World.grownBy.refl _ _⟩
    (fun kk a' W => ∃ g, W0.heap.size ≤ g ∧ a' = { tmps := #[.agg ds, .int .i64 lf, .pointer (some ⟨w.heap.size, 0, none⟩), .pointer (some ⟨w.heap.size + 1, 0, none⟩), .pointer (some ⟨w.heap.size + 1 + 1, 0, none⟩), .nilIface, .pointer (some ⟨w.heap.size + 1 + 1 + 1, 0, none⟩), .int .i64 (kk : Int), .pointer (some ⟨g, 0, none⟩), undef, .int .i64 lf, .bool true, .bool false, undef, undef, .agg ds, .int .i64 lf, .func (.func 104) #[] #[.pointer (some ⟨w.heap.size + 1 + 1 + 1 + 1, 0, none⟩), .pointer (some ⟨w.heap.size + 1 + 1 + 1 + 1 + 1, 0, none⟩)], .int .i64 (kk : Int), .agg (arrV .u8 (secC seed lf kk)), undef, undef, undef, undef, undef, undef, undef, undef, undef, undef], defers := [] } ∧ Blk W g 23 (arrV .u8 (secC seed lf kk)))
    (fun kk a' => ownFrom_ax _ _ _) ?assign ?body ?done ?stop
  case assign =>
    rintro l pre kk W K ⟨hL, hZ, hE, hG⟩ hK
    obtain ⟨cs, hcs⟩ : ∃ cs, cs = arrV .u8 (secC seed lf kk) := ⟨_, rfl⟩
    have hc16 : cs.size = 16 := by rw [hcs, arr_size]; exact (secC_dig _ _ _).1
    have HC := Lib.hid (show cs.size = 16 ∧ (cs.all fun v => v.oneCell') = true from ⟨hc16, by rw [hcs]; exact arr_one _ _⟩)
    rw [secE]
    rw [← hcs] at hK ⊢
    have hg1 : W.grownBy ((W.alloc (.cells Z16 23)).setRow W.heap.size cs) none := grown_row (World.grownBy_alloc W _ none) (.inl (Nat.le_refl _)) cs
    have hWs : W0.heap.size ≤ W.heap.size := hG.size
    have HK := Lib.hid (show K _ ((W.alloc (.cells Z16 23)).setRow W.heap.size cs) from hK _ _ ((keeps_grown hg1).from _) (KpS.grown hg1 (by simp) (by omega) (by omega) (by simp) (by simp))
      ⟨hL.grown hg1 (by simp), hZ.grown hg1 (by simp), hE.grown hg1, grown_trans hG (grown_weak hg1 _)⟩ ⟨W.heap.size, hWs, rfl, (Blk.new W 23 Z16).row cs⟩)
    clear hL hZ hE hG hg1 hK hcs hc16
    gi_wp2_with (refine wpListIn_store_row rfl 23 _ _ rfl W.heap.size cs rfl rfl 23 _ (heap_alloc_new W _) (by rw [HC.out.1]; exact info16) (by rw [HD.out.2.2, HC.out.1]) HC.out.2 ?_)
    exact HK.out
  case body =>
    rintro l pre kk a' W hl0 hl1 ⟨hL, hZ, hE, hG⟩ ⟨g, hg, rfl, hB⟩ hlen
    obtain ⟨v, hbx, hown, _⟩ := hE
    obtain ⟨I, hI⟩ : ∃ I : Int, I = (kk : Int) := ⟨_, rfl⟩
    obtain ⟨cs, hcs⟩ : ∃ cs, cs = arrV .u8 (secC seed lf kk) := ⟨_, rfl⟩
    obtain ⟨es, hes⟩ : ∃ es, es = arrV .u8 (endS seed lf kk) := ⟨_, rfl⟩
    have hc16 : cs.size = 16 := by rw [hcs, arr_size]; exact (secC_dig _ _ _).1
    have he16 : es.size = 16 := by rw [hes, arr_size]; exact (endS_dig _ _ _).1
    rw [← hcs] at hB ⊢
    rw [← hI]
    have hGw : w.grownBy W none := grown_fresh hg0 hG (by omega)
    have HRW := Lib.hid (HN.out.2.2.1.grown hGw (by simp))
    have HST := Lib.hid (run_of W HRW.out seed lf I kk hI cs es hcs hes)
    have HCS := Lib.hid (And.intro hc16 (And.intro he16 (And.intro (show (es.all fun v => v.oneCell') = true by rw [hes]; exact arr_one _ _) (show es.toList = (endS seed lf kk).map (Value.int .u8) by rw [hes]))))
    have c1' := hL.cell 0
    simp only [List.getElem?_toArray, List.getElem?_cons_zero] at c1'
    have HB := Lib.hid (And.intro hB (And.intro hL (And.intro hZ (And.intro hbx (And.intro hown (And.intro hG hGw))))))
    have HL := Lib.hid (And.intro hlen hl0)
    clear hB hL hZ hbx hown hG hGw hc16 he16 hcs hes hI hlen hl0 hl1
    gi_wp2_with (refine wpListIn_load_row rfl 23 _ rfl g rfl 23 cs (0, 0) _ HB.out.1 Tryz.underlying23 rfl (by rw [HCS.out.1]; exact info16) ?_)
    refine ⟨trivial, ?_⟩
    refine (CallsIn.inRound l (callsIn_wide.2 HST.out)).mono ?_
    rintro e W2 ⟨rfl, hk2⟩
    have HK2 := Lib.hid hk2
    clear hk2 c1'
    gi_wp2_with (refine wpListIn_store_row rfl 23 _ _ rfl W2.heap.size es rfl rfl 23 _ (heap_alloc_new W2 _) (by rw [HCS.out.2.1]; exact info16) (by rw [HD.out.2.2, HCS.out.2.1]) HCS.out.2.2.1 ?_)
    obtain ⟨W4, hW4⟩ : ∃ W4, W4 = (W2.alloc (.cells Z16 23)).setRow W2.heap.size es := ⟨_, rfl⟩
    rw [← hW4]
    have hk4 : W.grownBy W4 none := by rw [hW4]; exact grown_row (grown_trans HK2.out (World.grownBy_alloc W2 _ none)) (.inl HK2.out.size) es
    have HB4 := Lib.hid (show Blk W4 W2.heap.size 23 es by rw [hW4]; exact (Blk.new W2 23 Z16).row es)
    have HK4 := Lib.hid (grown_drew hk4)
    obtain ⟨g4, hg4⟩ : ∃ g4, g4 = W2.heap.size := ⟨_, rfl⟩
    rw [← hg4] at HB4 ⊢
    have HX4 := Lib.hid (And.intro (HB.out.2.2.2.1.kept HK4.out (by simp)) (own_keep HB.out.2.2.2.2.1 HK4.out))
    have cbx := HX4.out.1.cell
    have hsl := dig_slice
    clear hW4 hk4 hg4
    refine wpIn_region_held_round (S := fun _ => True) (by kernel_rfl) (by kernel_rfl) (by rintro ⟨_, _, h⟩; exact h) trivial (fun hHeld => ?_)
    refine wpAnyH_take (i := 1) (oi := _) (v := ?v1) rfl (by kernel_rfl) (by kernel_rfl) (by kernel_rfl) (fun _ _ _ h => h) (Or.inl ⟨by rfl, ?hy1⟩) trivial ?rest1
    case hy1 => (intro V hSw; go_simp) <;> with_reducible rfl
    simp only [Act.put, List.getElem_toArray, List.getElem_cons_succ, List.getElem_cons_zero, List.setIfInBounds_toArray, List.set_cons_zero, List.set_cons_succ]
    refine wpAnyH_ready (rs := [0]) (by kernel_rfl) (by simp) ?_
    refine AllReadyH.cons (o := _) rfl (fun K hK => ?_) AllReadyH.nil
    go_simp
    refine hK.out _ _ trivial (fun _ => ?_)
    clear hK K
    try simp only [Act.put, List.setIfInBounds_toArray, List.set_cons_zero, List.set_cons_succ]
    refine wpAnyH_ready (rs := [2]) (by kernel_rfl) (by simp) ?_
    refine AllReadyH.cons (o := _) rfl (fun K hK => ?_) AllReadyH.nil
    rw [if_pos (by rfl)]
    refine wp_append_own _ _ _ 49 rfl (w.heap.size + 6) 5 i0 (.int .u8 0) 1 1 Tryz.underlying49 HI0.out.1 HI0.out.2.1 HI0.out.2.2.1 HI0.out.2.2.2 rfl (by decide) v _ _ rfl HX4.out.2 ⟨g4, 0, none⟩ 16 16 es.toList rfl (show es.toList.length = 16 * 1 by rw [Array.length_toList]; exact HCS.out.2.1) (fun j u hu => by rw [addr_zero_add, World.cell?_drew, HB4.out.cell j, ← Array.getElem?_toList]; exact hu) (by rw [HCS.out.2.2.2]; simp [Value.oneCell']) (by have := HL.out.1; simp only [maxLen]; omega) (by have := HL.out.1; omega) (by have := HK4.out.size; have := HB.out.2.2.2.2.2.1.size; omega) ?_
    intro v' w5 hown5 hgrow5 _
    have hs5 : ∃ A cap, v' = .slice A (16 * pre.length + 16) cap := own_slice _ hown5
    obtain ⟨A5, cap5, rfl⟩ := hs5
    have hbx5 := HX4.out.1.kept hgrow5 (HX4.out.1.not_row (by decide) HX4.out.2)
    have HX5 := Lib.hid (And.intro hbx5 (And.intro hown5 hgrow5))
    have cbx5 := hbx5.cell
    have fbx5 := hbx5.frozen
    clear hbx5 hown5 hgrow5
    refine hK.out _ _ trivial (fun _ => ?_)
    clear hK K
    try simp only [Act.put, List.setIfInBounds_toArray]
    refine wpAnyH_ready (rs := [3]) (by kernel_rfl) (by simp) ?_
    refine AllReadyH.cons (o := _) rfl (fun K hK => ?_) AllReadyH.nil
    go_simp
    refine hK.out _ _ trivial (fun _ => ?_)
    refine wpAnyH_done (by kernel_rfl) ?_ _
    have hg6 := grownBy_setCell' w5 (w.heap.size + 1 + 1 + 1) (.slice A5 (16 * pre.length + 16) cap5)
    have hKa := KpS.grown (b1 := w.heap.size + 1 + 1 + 1 + 1) (b2 := w.heap.size + 1 + 1 + 1 + 1 + 1) HK4.out (by simp) (by have := HB.out.2.2.2.2.2.1.size; omega) (by have := HB.out.2.2.2.2.2.1.size; omega) (by simp) (by simp)
    have hsz4 : W0.heap.size ≤ W4.drew.heap.size := Nat.le_trans HB.out.2.2.2.2.2.1.size HK4.out.size
    have hsz5 : W0.heap.size ≤ w5.heap.size := Nat.le_trans hsz4 HX5.out.2.2.size
    have hvb : ∀ q, v.ownBlock = some q → w.heap.size + 6 ≤ q := fun q hq => (HX4.out.2.lt q hq).1
    have hKb := KpS.grown (b1 := w.heap.size + 1 + 1 + 1 + 1) (b2 := w.heap.size + 1 + 1 + 1 + 1 + 1) HX5.out.2.2 (fun e => by have := hvb _ e; omega) (by omega) (by omega) (fun e => by have := hvb _ e; omega) (fun e => by have := hvb _ e; omega)
    have hKc := KpS.grown (b1 := w.heap.size + 1 + 1 + 1 + 1) (b2 := w.heap.size + 1 + 1 + 1 + 1 + 1) hg6 (fun e => by have := Option.some.inj e; omega) (by omega) (by omega) (fun e => by have := Option.some.inj e; omega) (fun e => by have := Option.some.inj e; omega)
    have hn1 : ∀ b, b < w.heap.size + 1 + 1 + 1 → some b ≠ v.ownBlock ∧ some b ≠ some (w.heap.size + 1 + 1 + 1) := fun b hb => ⟨fun e => by have := hvb _ e.symm; omega, fun e => by have := Option.some.inj e; omega⟩
    refine ⟨(((keeps_grown HK4.out).trans (keeps_own HX5.out.2.2 HX4.out.2)).trans (KeepsOthers.setCell _ _ _)).from _, (hKa.trans hKb).trans hKc, ((HB.out.2.1.grown HK4.out (by simp)).grown HX5.out.2.2 (hn1 _ (by omega)).1).grown hg6 (hn1 _ (by omega)).2, ((HB.out.2.2.1.grown HK4.out (by simp)).grown HX5.out.2.2 (hn1 _ (by omega)).1).grown hg6 (hn1 _ (by omega)).2, ?_, grown_trans (grown_own_r (grown_trans HB.out.2.2.2.2.2.1 (grown_weak HK4.out _)) HX5.out.2.2 HX4.out.2 (by omega)) hg6⟩
    refine ⟨_, HX5.out.1.set _, ?_, trivial⟩
    have := HX5.out.2.1.kept (grownBy_setCell' w5 (w.heap.size + 1 + 1 + 1) (.slice A5 (16 * pre.length + 16) cap5)) (.inr (HX5.out.1.not_row (by decide) HX5.out.2.1).symm)
    rw [HCS.out.2.2.2, ← List.map_append, ← rowL_snoc] at this
    rw [List.length_append, List.length_cons, List.length_nil, show 16 * (pre.length + (0 + 1)) = 16 * pre.length + 16 by omega]
    exact this
  case done =>
    rintro Dd ys W hD rfl ⟨hL, hZ, hE, hG⟩ hK
    rw [rowL_upto, upto_length] at hE
    obtain ⟨v, hbx, hown, _⟩ := hE
    obtain ⟨A, cap2, rfl, hby, hcap, hlen⟩ := own_str hown
    have hGw : w.grownBy W none := grown_fresh hg0 hG (by omega)
    have cbx := hbx.cell
    have c1' := hL.cell 0
    simp only [List.getElem?_toArray, List.getElem?_cons_zero] at c1'
    have HP := Lib.hid (fun (h : 16 * 68 ≤ 2000) => public_is W (HN.out.2.2.1.grown hGw (by simp)) lf A _ cap2 _ hlen hcap hby h)
    have HS6 := Lib.hid (show rs.size = 16 ∧ (rs.all fun x => x.oneCell') = true ∧ arrV .u8 (pubC lf (rowC (endS seed lf) 68)) = rs from ⟨by rw [HN.out.2.1, arr_size]; exact (pubS_dig _ _).1, by rw [HN.out.2.1]; exact arr_one _ _, by rw [HN.out.2.1, pubS]⟩)
    have HZ := Lib.hid hZ
    have HG := Lib.hid hGw
    have HKD := Lib.hid hK
    have HDD := Lib.hid hD
    clear hL hZ hG hGw hbx hown hby hcap hlen hK hD
    gi_wp2
    refine ⟨trivial, ?_⟩
    refine (callsIn_wide.2 (HP.out (by omega))).mono ?_
    rintro e w4 ⟨rfl, hk4⟩
    rw [HS6.out.2.2]
    have HZ4 := Lib.hid (HZ.out.grown hk4 (by simp))
    have HG4 := Lib.hid (grown_trans HG.out hk4)
    have HK4 := Lib.hid ((hk4.block Dd (Array.getElem?_eq_some_iff.1 HKD.out).1 (by simp)).trans HKD.out)
    clear hk4
    gi_wp2_with (refine wpListIn_store_row rfl 23 _ _ rfl (w.heap.size + 1 + 1) rs rfl rfl 23 _ HZ4.out (by rw [HS6.out.1]; exact info16) (by rw [HD.out.2.2, HS6.out.1]) HS6.out.2.1 ?_)
    have hK' : (w4.setRow (w.heap.size + 1 + 1) rs).heap[Dd]? = some (.deferred (some [])) := (setRow_other _ _ _ _ (by have := HDD.out; omega)).trans HK4.out
    have hZ' := (HZ4.out.row rs).grown (grownBy_putObj' _ Dd (.deferred none)) (by intro e; have := Option.some.inj e; have := HDD.out; omega)
    refine ⟨by simp, .inl ⟨_, _, rfl, run_takeDeferred hK', ?_⟩⟩
    exact ⟨_, results_cell_t rfl _ _ _ ⟨w.heap.size + 1 + 1, 0, none⟩ (.agg rs) rfl (run_loadVar_row _ (w.heap.size + 1 + 1) 23 23 rs (0, 0) _ hZ' Tryz.underlying23 rfl (by rw [HS6.out.1]; exact info16)), rfl, grown_fresh (grown_row HG4.out (.inl (by omega)) rs) (grownBy_putObj' _ Dd (.deferred none)) (by have := HDD.out; omega)⟩
  case stop => rintro Dd c pre W hD hk h hK; exact h.elim
end Go.Proofs.YthkjlgjbjjjohaaGreatDoor
/-
  chains.Sign by a leaf.
-/
namespace Go.Proofs.YthkjlgjbjjjohaaGreatDoor
open Go.RowKit Go.Shelf

attribute [local go_sem] Oper.semAt_some

theorem sig_of (w : World) (hR : Rounds w) (seed : List Int) (lf i : Int) (d : List Int) (k : Nat) (hi : i = (k : Int)) (x : Int) (hx : x = (digitsS d).getD k 0) (cs es : Array Value) (h1 : cs = arrV .u8 (secC seed lf k)) (h2 : es = arrV .u8 (sigS seed lf d k)) :
    Calls Tryz.prog 68 #[.agg cs, .int .i64 lf, .int .i64 i, .int .i64 0, .int .i64 x] w fun e w' => e = .returned (.agg es) ∧ w.grownBy w' none := by
  subst hi
  have := dig_range d k
  exact run_v w hR (secC seed lf k) (secC_dig _ _ _) lf k 0 x (by omega) (by omega) (digN d k) (by rw [digN, ← hx]; omega) cs es h1 (by rw [h2, sigS])
theorem digits_v (w : World) (d : List Int) (hd : isDig d) (dd : Array Value) (h : dd = arrV .u8 d) : Calls Tryz.prog 133 #[.agg dd] w fun e w' =>
    ∃ g cap, e = .returned (.slice (some ⟨g, 0, none⟩) 68 cap) ∧ (∀ j, j < 68 → w'.cell? ⟨g, j, none⟩ = some (.int .i64 ((digitsS d).getD j 0))) ∧ w.heap.size ≤ g ∧ w.grownBy w' none := by
  subst h; exact digits_is w d hd.1 hd.2
theorem made68 : ∃ M : Array Value, M.size = 1088 ∧ ∀ V : World, Sem.run Tryz.prog (Instr.makeSlice 71 (.int .i64 68) (.int .i64 68)) V = .ok (.slice (some ⟨V.heap.size, 0, none⟩) 68 68) (V.alloc (.cells M 23)) := by
  cases hq : Tryz.prog.info? 23 with
  | none => exact absurd info16 (by rw [hq]; simp)
  | some i =>
    have hs : i.size = 16 := by have := info16; simpa [hq] using this
    have hz : ∃ z, i.zero = some z := by
      have : (Tryz.prog.info? 23).bind (·.zero) = some (.agg (arrV .u8 (List.replicate 16 0))) := by kernel_rfl
      exact ⟨_, by simpa [hq] using this⟩
    have hb : i.bytes = 16 := by
      have : (Tryz.prog.info? 23).map (·.bytes) = some 16 := by kernel_rfl
      simpa [hq] using this
    obtain ⟨z, hz⟩ := hz
    exact ⟨madeCells z.cells (68 * 16), size_madeCells _ _, fun V => by
      have := run_make (P := Tryz.prog) V 71 23 i z Tryz.underlying71 hq hz .i64 .i64 68 68 (by omega) (by omega) (by rw [hb]; omega) (by omega)
      rw [hs] at this
      exact this⟩

set_option maxRecDepth 100000 in
set_option maxHeartbeats 4000000 in
theorem sign_ok (w : World) (hR : Rounds w) (seed : List Int) (hs : isDig seed) (lf : Int) (hlf : 0 ≤ lf ∧ lf < 32) (d : List Int) (hd : isDig d) :
    Calls Tryz.prog 120 #[.agg (arrV .u8 seed), .int .i64 lf, .agg (arrV .u8 d)] w fun e w' => ∃ b, e = .returned (.tuple #[.slice (some ⟨b, 0, none⟩) 68 68, .nilIface]) ∧ w.heap.size ≤ b ∧ w'.there b 0 1088 ∧ DigsAt w' b 0 (sigsS seed lf d) ∧ w.grownBy w' none := by
  obtain ⟨Z16, hZ16⟩ : ∃ Z, Z = arrV .u8 (List.replicate 16 0) := ⟨_, rfl⟩
  have hz16 : ∀ w, Sem.run Tryz.prog (zeroValue 23) w = .ok (.agg Z16) w := fun w => by rw [hZ16]; exact z16run w
  have hZs : Z16.size = 16 := by rw [hZ16]; rfl
  obtain ⟨ds, hds⟩ : ∃ ds, ds = arrV .u8 seed := ⟨_, rfl⟩
  obtain ⟨dd, hdd⟩ : ∃ dd, dd = arrV .u8 d := ⟨_, rfl⟩
  rw [← hds, ← hdd]
  obtain ⟨M, hMs, hmk⟩ := made68
  have HM := Lib.hid (And.intro hMs hmk)
  have HD := Lib.hid (show ds = arrV .u8 seed ∧ ds.size = 16 ∧ Z16.size = 16 ∧ dd = arrV .u8 d ∧ dd.size = 16 from ⟨hds, by rw [hds, arr_size, hs.1], hZs, hdd, by rw [hdd, arr_size, hd.1]⟩)
  have HN := Lib.hid (And.intro hs (And.intro hd (And.intro hR hlf)))
  clear hZ16 hZs hds hs hdd hd hR hlf hMs hmk
  refine (callsIn_wide (n := 6)).1 ?_
  refine callsIn_of_wp_marks Tryz.func120 rfl trivial ?_ rfl
  simp only [Tryz.ntmps120, List.size_toArray, List.length_cons, List.length_nil, Nat.reduceAdd, Nat.reduceSub, Array.replicate_succ, Array.replicate_zero, List.push_toArray, List.append_toArray, List.nil_append, List.cons_append]
  gi_wp2
  refine ⟨trivial, ?_⟩
  refine (callsIn_wide.2 (isleaf_yes _ lf HN.out.2.2.2)).mono ?_
  rintro e w1 ⟨rfl, rfl⟩
  have HBd := Lib.hid (show Blk (((w.alloc (.cells ds 23)).alloc (.cells #[.int .i64 lf] 3)).alloc (.cells dd 23)) (w.heap.size + 1 + 1) 23 dd from by have := Blk.new ((w.alloc (.cells ds 23)).alloc (.cells #[.int .i64 lf] 3)) 23 dd; simpa only [World.size_alloc] using this)
  gi_wp2_with (refine wpListIn_load_row rfl 23 _ rfl (w.heap.size + 1 + 1) rfl 23 dd (0, 0) _ HBd.out Tryz.underlying23 rfl (by rw [HD.out.2.2.2.2]; exact info16) ?_)
  refine ⟨trivial, ?_⟩
  refine (callsIn_wide.2 (digits_v _ d HN.out.2.1 dd HD.out.2.2.2.1)).mono ?_
  rintro e W1 ⟨g, cap, rfl, hcell, hgs, hk1⟩
  have hb0 := (((Blk.new w 23 ds).alloc (.cells #[.int .i64 lf] 3)).alloc (.cells dd 23)).grown hk1 (by simp)
  have hb1 := ((Blk.new (w.alloc (.cells ds 23)) 3 #[.int .i64 lf]).alloc (.cells dd 23)).grown hk1 (by simp)
  have hG1 := grown_trans (grown_trans (grown_trans (World.grownBy_alloc w (.cells ds 23) none) (World.grownBy_alloc _ (.cells #[.int .i64 lf] 3) none)) (World.grownBy_alloc _ (.cells dd 23) none)) hk1
  simp only [World.size_alloc] at hb1 hgs
  have hszk := hk1.size
  simp only [World.size_alloc] at hszk
  have hgl : g < W1.heap.size := World.block_lt_of_cell? W1 _ (hcell 0 (by omega))
  have H1 := Lib.hid (And.intro hb0 (And.intro hb1 (And.intro hG1 (And.intro hcell (And.intro hgl hgs)))))
  have hsz1 : w.heap.size + 3 ≤ W1.heap.size := by omega
  clear hb0 hb1 hG1 hcell hgl hgs hk1 hszk
  have HBs := Lib.hid (show Blk (((W1.alloc (.cells #[.slice (some ⟨g, 0, none⟩) 68 cap] 78)).alloc (.cells M 23)).alloc (.cells #[.slice (some ⟨W1.heap.size + 1, 0, none⟩) 68 68] 71)) w.heap.size 23 ds from ((H1.out.1.alloc _).alloc _).alloc _)
  have kl : (((W1.alloc (.cells #[.slice (some ⟨g, 0, none⟩) 68 cap] 78)).alloc (.cells M 23)).alloc (.cells #[.slice (some ⟨W1.heap.size + 1, 0, none⟩) 68 68] 71)).cell? ⟨w.heap.size + 1, 0, none⟩ = some (.int .i64 lf) := (((H1.out.2.1.alloc _).alloc _).alloc _).cell 0
  gi_wp2_with (first
    | (refine wpListIn_make_run rfl 71 _ _ rfl (.int .i64 68) (.int .i64 68) _ rfl rfl (HM.out.2 _) ?_)
    | (refine wpListIn_load_row rfl 23 _ rfl w.heap.size rfl 23 ds (0, 0) _ HBs.out Tryz.underlying23 rfl (by rw [HD.out.2.1]; exact info16) ?_))
  refine ⟨trivial, ?_⟩
  refine (secrets_in _ _ _ _ _ rfl).mono ?_
  rintro e w1 ⟨rfl, rfl⟩
  gi_wp2
  have b0 := Blk.new W1 78 #[.slice (some ⟨g, 0, none⟩) 68 cap]
  have b1 := Blk.new (W1.alloc (.cells #[.slice (some ⟨g, 0, none⟩) 68 cap] 78)) 23 M
  have b2 := Blk.new ((W1.alloc (.cells #[.slice (some ⟨g, 0, none⟩) 68 cap] 78)).alloc (.cells M 23)) 71 #[.slice (some ⟨W1.heap.size + 1, 0, none⟩) 68 68]
  have b3 := Blk.new (((W1.alloc (.cells #[.slice (some ⟨g, 0, none⟩) 68 cap] 78)).alloc (.cells M 23)).alloc (.cells #[.slice (some ⟨W1.heap.size + 1, 0, none⟩) 68 68] 71)) 23 ds
  have b4 := Blk.new ((((W1.alloc (.cells #[.slice (some ⟨g, 0, none⟩) 68 cap] 78)).alloc (.cells M 23)).alloc (.cells #[.slice (some ⟨W1.heap.size + 1, 0, none⟩) 68 68] 71)).alloc (.cells ds 23)) 3 #[.int .i64 lf]
  simp only [World.size_alloc] at b1 b2 b3 b4
  have c0 := (((b0.alloc (.cells M 23)).alloc (.cells #[.slice (some ⟨W1.heap.size + 1, 0, none⟩) 68 68] 71)).alloc (.cells ds 23)).alloc (.cells #[.int .i64 lf] 3)
  have c1 := ((b1.alloc (.cells #[.slice (some ⟨W1.heap.size + 1, 0, none⟩) 68 68] 71)).alloc (.cells ds 23)).alloc (.cells #[.int .i64 lf] 3)
  have c2 := (b2.alloc (.cells ds 23)).alloc (.cells #[.int .i64 lf] 3)
  have c3 := b3.alloc (.cells #[.int .i64 lf] 3)
  have hg1 : W1.grownBy (((((W1.alloc (.cells #[.slice (some ⟨g, 0, none⟩) 68 cap] 78)).alloc (.cells M 23)).alloc (.cells #[.slice (some ⟨W1.heap.size + 1, 0, none⟩) 68 68] 71)).alloc (.cells ds 23)).alloc (.cells #[.int .i64 lf] 3)) none := grown_trans (grown_trans (grown_trans (grown_trans (World.grownBy_alloc W1 _ none) (World.grownBy_alloc _ _ none)) (World.grownBy_alloc _ _ none)) (World.grownBy_alloc _ _ none)) (World.grownBy_alloc _ _ none)
  obtain ⟨W0, hW0⟩ : ∃ W0, (((((W1.alloc (.cells #[.slice (some ⟨g, 0, none⟩) 68 cap] 78)).alloc (.cells M 23)).alloc (.cells #[.slice (some ⟨W1.heap.size + 1, 0, none⟩) 68 68] 71)).alloc (.cells ds 23)).alloc (.cells #[.int .i64 lf] 3)) = W0 := ⟨_, rfl⟩
  have hsz : W0.heap.size = W1.heap.size + 5 := by rw [← hW0]; simp
  rw [hW0] at hg1 c0 c1 c2 c3 b4 ⊢
  clear b0 b1 b2 b3 hW0
  have hRl := HN.out.2.2.1.lt
  have hgl := H1.out.2.2.2.2.1
  have hg0 := grown_trans H1.out.2.2.1 hg1
  have hgs := H1.out.2.2.2.2.2
  have HW := Lib.hid (And.intro (H1.out.1.grown hg1 (by simp)) (And.intro (H1.out.2.1.grown hg1 (by simp)) (And.intro c0 (And.intro c2 (And.intro (show ∀ j, j < 68 → W0.cell? ⟨g, j, none⟩ = some (.int .i64 ((digitsS d).getD j 0)) from fun j hj => hg1.cell (H1.out.2.2.2.1 j hj) (by simp)) hg0)))))
  have hmn : w.heap.size + 3 ≤ W1.heap.size := by omega
  refine wpIn_rangeFunc_ownH (α := Fin 68) rfl (by omega) (gf := 104) (lb := #[.pointer (some ⟨W1.heap.size + 1 + 1 + 1, 0, none⟩), .pointer (some ⟨W1.heap.size + 1 + 1 + 1 + 1, 0, none⟩)]) rfl trivial (enters_of Tryz.func104 (by kernel_rfl) rfl)
    (secrets_seqF 5 (by omega) (W1.heap.size + 1 + 1 + 1) (W1.heap.size + 1 + 1 + 1 + 1) seed HN.out.1 lf W0 (HN.out.2.2.1.grown hg0 (by simp)) (by rw [← HD.out.1]; exact c3) b4) (fun h1 h2 => KpS.trans h1 h2)
    (fun W l o o' hl ho hc hw => KpS.grown (grownBy_putObj' W l o') (by intro e; have := Option.some.inj e; omega) (by have := (Array.getElem?_eq_some_iff.1 ho).1; omega) (by have := (Array.getElem?_eq_some_iff.1 ho).1; omega) (by intro e; have := Option.some.inj e; omega) (by intro e; have := Option.some.inj e; omega)) (Below.refl _ _) (fun _ => rfl)
    (fun pre W => W0.grownBy W (some (W1.heap.size + 1)) ∧ (W.there (W1.heap.size + 1) 0 1088 ∧ (∀ x ∈ pre, W.rangeAt (W1.heap.size + 1) (x.1 * 16) (arrV .u8 (sigS seed lf d x.1)).toList)))
    (fun _ _ _ => False)
    (OwnFrom.and (ownFrom_grownr (Nat.le_refl _)) (OwnFrom.and (ownFrom_there (by omega)) (ownFrom_ranges (fun x : Fin 68 => x.1 * 16) (fun x : Fin 68 => (arrV .u8 (sigS seed lf d x.1)).toList) (by omega))))
    (fun _ => ownFrom_pure _)
    ⟨World.grownBy.refl _ _, there_blk c1 (Nat.le_of_eq HM.out.1.symm), fun x hx => by cases hx⟩
    (fun kk a' W => ∃ gx, W0.heap.size ≤ gx ∧ a' = { tmps := #[.agg ds, .int .i64 lf, .agg dd, .pointer (some ⟨w.heap.size, 0, none⟩), .pointer (some ⟨w.heap.size + 1, 0, none⟩), .pointer (some ⟨w.heap.size + 1 + 1, 0, none⟩), .slice none 0 0, .nilIface, .pointer (some ⟨W1.heap.size, 0, none⟩), .pointer (some ⟨W1.heap.size + 1 + 1, 0, none⟩), .int .i64 (kk.1 : Int), .pointer (some ⟨gx, 0, none⟩), .int .i64 lf, .bool true, .bool false, undef, .agg dd, .slice (some ⟨g, 0, none⟩) 68 cap, .slice (some ⟨W1.heap.size + 1, 0, none⟩) 68 68, .agg ds, .int .i64 lf, .func (.func 104) #[] #[.pointer (some ⟨W1.heap.size + 1 + 1 + 1, 0, none⟩), .pointer (some ⟨W1.heap.size + 1 + 1 + 1 + 1, 0, none⟩)], .int .i64 (kk.1 : Int), .agg (arrV .u8 (secC seed lf kk.1)), undef, undef, undef, undef, undef, undef, undef, undef, undef, undef, undef, undef], defers := [] } ∧ Blk W gx 23 (arrV .u8 (secC seed lf kk.1)))
    (fun kk a' => ownFrom_ax _ _ _) ?assign ?body ?done ?stop
  case assign =>
    rintro l pre kk W K ⟨hG, hT, hR⟩ hK
    obtain ⟨cs, hcs⟩ : ∃ cs, cs = arrV .u8 (secC seed lf kk.1) := ⟨_, rfl⟩
    have hc16 : cs.size = 16 := by rw [hcs, arr_size]; exact (secC_dig _ _ _).1
    have HC := Lib.hid (show cs.size = 16 ∧ (cs.all fun v => v.oneCell') = true from ⟨hc16, by rw [hcs]; exact arr_one _ _⟩)
    rw [secE]
    rw [← hcs] at hK ⊢
    have hg1 : W.grownBy ((W.alloc (.cells Z16 23)).setRow W.heap.size cs) none := grown_row (World.grownBy_alloc W _ none) (.inl (Nat.le_refl _)) cs
    have hWs : W0.heap.size ≤ W.heap.size := hG.size
    have HK := Lib.hid (show K _ ((W.alloc (.cells Z16 23)).setRow W.heap.size cs) from hK _ _ ((keeps_grown hg1).from _) (KpS.grown hg1 (by simp) (by omega) (by omega) (by simp) (by simp))
      ⟨grown_trans hG (grown_weak hg1 _), there_to hT hg1 (by simp), fun x hx => range_to (hR x hx) hg1 (by simp)⟩ ⟨W.heap.size, hWs, rfl, (Blk.new W 23 Z16).row cs⟩)
    clear hG hT hR hg1 hK hcs hc16
    gi_wp2_with (refine wpListIn_store_row rfl 23 _ _ rfl W.heap.size cs rfl rfl 23 _ (heap_alloc_new W _) (by rw [HC.out.1]; exact info16) (by rw [HD.out.2.2.1, HC.out.1]) HC.out.2 ?_)
    exact HK.out
  case body =>
    rintro l pre kk a' W hl0 hl1 ⟨hG, hT, hR⟩ ⟨gx, hgx, rfl, hB⟩ hlen
    obtain ⟨I, hI⟩ : ∃ I : Int, I = (kk.1 : Int) := ⟨_, rfl⟩
    have hI68 : 0 ≤ I ∧ I < 68 := by have := kk.2; omega
    have hkI : I.toNat = kk.1 := by omega
    obtain ⟨cs, hcs⟩ : ∃ cs, cs = arrV .u8 (secC seed lf kk.1) := ⟨_, rfl⟩
    obtain ⟨csl, hcsl⟩ : ∃ l, l = cs.toList := ⟨_, rfl⟩
    obtain ⟨es, hes⟩ : ∃ es, es = arrV .u8 (sigS seed lf d kk.1) := ⟨_, rfl⟩
    obtain ⟨x, hx⟩ : ∃ x, x = (digitsS d).getD kk.1 0 := ⟨_, rfl⟩
    have hc16 : csl.length = 16 := by rw [hcsl, Array.length_toList, hcs, arr_size]; exact (secC_dig _ _ _).1
    have he16 : es.size = 16 := by rw [hes, arr_size]; exact (sigS_dig _ _ _ _).1
    rw [← hcs] at hB ⊢
    rw [← hI]
    have hGw : w.grownBy W none := grown_fresh HW.out.2.2.2.2.2 hG (by omega)
    have hS0 : W.cell? ⟨W1.heap.size + 1 + 1, 0, none⟩ = some (.slice (some ⟨W1.heap.size + 1, 0, none⟩) 68 68) ∧ W.cell? ⟨w.heap.size + 1, 0, none⟩ = some (.int .i64 lf) ∧ W.cell? ⟨W1.heap.size, 0, none⟩ = some (.slice (some ⟨g, 0, none⟩) 68 cap) ∧ W.cell? ⟨g, I.toNat, none⟩ = some (.int .i64 x) ∧ W.rangeAt gx 0 csl := by
      have hne : ∀ q, q ≠ W1.heap.size + 1 → some q ≠ some (W1.heap.size + 1) := fun q hq e => hq (Option.some.inj e)
      refine ⟨(HW.out.2.2.2.1.grown hG (hne _ (by omega))).cell 0, (HW.out.2.1.grown hG (hne _ (by omega))).cell 0, (HW.out.2.2.1.grown hG (hne _ (by omega))).cell 0, ?_, ?_⟩
      · rw [hkI, hx]; exact hG.cell (HW.out.2.2.2.2.1 kk.1 kk.2) (hne _ (by dsimp only; omega))
      · intro j v hv; rw [Nat.zero_add, hB.cell, ← Array.getElem?_toList, ← hcsl]; exact hv
    have HSS := Lib.hid (show ∀ V, W.grownBy V none → V.cell? ⟨W1.heap.size + 1 + 1, 0, none⟩ = some (.slice (some ⟨W1.heap.size + 1, 0, none⟩) 68 68) ∧ V.cell? ⟨w.heap.size + 1, 0, none⟩ = some (.int .i64 lf) ∧ V.cell? ⟨W1.heap.size, 0, none⟩ = some (.slice (some ⟨g, 0, none⟩) 68 cap) ∧ V.cell? ⟨g, I.toNat, none⟩ = some (.int .i64 x) ∧ V.rangeAt gx 0 csl from fun V hV =>
      ⟨hV.cell hS0.1 (by simp), hV.cell hS0.2.1 (by simp), hV.cell hS0.2.2.1 (by simp), hV.cell hS0.2.2.2.1 (by simp), range_to hS0.2.2.2.2 hV (by simp)⟩)
    have HST := Lib.hid (fun V (hV : w.grownBy V none) => sig_of V (HN.out.2.2.1.grown hV (by simp)) seed lf I d kk.1 hI x hx csl.toArray es (by rw [hcsl, Array.toArray_toList, hcs]) hes)
    have HCS := Lib.hid (And.intro hkI (And.intro he16 (And.intro (show (es.all fun v => v.oneCell') = true by rw [hes]; exact arr_one _ _) (And.intro hes (show (Tryz.prog.info? 23).map (·.size) = some csl.length by rw [hc16]; exact info16)))))
    have HB := Lib.hid (And.intro hG (And.intro hT (And.intro hR hGw)))
    have HL := Lib.hid (And.intro hlen hl0)
    clear hB hG hT hR hGw hc16 he16 hcs hcsl hes hI hkI hx hlen hl0 hl1 hS0
    gi_wp2
    refine wpIn_region_held_round (S := fun V => V.cell? ⟨W1.heap.size + 1 + 1, 0, none⟩ = some (.slice (some ⟨W1.heap.size + 1, 0, none⟩) 68 68) ∧ V.cell? ⟨w.heap.size + 1, 0, none⟩ = some (.int .i64 lf) ∧ V.cell? ⟨W1.heap.size, 0, none⟩ = some (.slice (some ⟨g, 0, none⟩) 68 cap) ∧ V.cell? ⟨g, I.toNat, none⟩ = some (.int .i64 x) ∧ V.rangeAt gx 0 csl) (by kernel_rfl) (by kernel_rfl) (by rintro ⟨_, _, h⟩; exact h) (HSS.out _ (grown_drew (World.grownBy.refl W none))) (fun hHeld => ?_)
    refine wpAnyH_take (i := 0) (oi := _) (v := ?v0) rfl (by kernel_rfl) (by kernel_rfl) (by kernel_rfl) (fun _ _ _ h => h) (Or.inl ⟨by rfl, ?hy0⟩) (by assumption) ?rest0
    case hy0 => (intro V hSw; (try dsimp only at hSw); go_simp) <;> with_reducible rfl
    simp only [Act.put, List.getElem_toArray, List.getElem_cons_zero, List.setIfInBounds_toArray, List.set_cons_zero, List.set_cons_succ]
    refine wpAnyH_take (i := 1) (oi := _) (v := ?v1) rfl (by kernel_rfl) (by kernel_rfl) (by kernel_rfl) (fun _ _ _ h => h) (Or.inl ⟨by rfl, ?hy1⟩) (by assumption) ?rest1
    case hy1 => (intro V hSw; (try dsimp only at hSw); go_simp) <;> with_reducible rfl
    simp only [Act.put, List.getElem_toArray, List.getElem_cons_succ, List.getElem_cons_zero, List.setIfInBounds_toArray, List.set_cons_zero, List.set_cons_succ]
    refine wpAnyH_take (i := 2) (oi := _) (v := .agg csl.toArray) rfl (by kernel_rfl) (by kernel_rfl) (by kernel_rfl) (fun _ _ _ h => h) (yieldsIf_load_mid (by rfl) _ _ rfl gx 0 rfl csl _ (fun V hSw => hSw.2.2.2.2) Tryz.underlying23 rfl HCS.out.2.2.2.2) (by assumption) ?rest2
    simp only [Act.put, List.getElem_toArray, List.getElem_cons_succ, List.getElem_cons_zero, List.setIfInBounds_toArray, List.set_cons_zero, List.set_cons_succ]
    refine wpAnyH_take (i := 3) (oi := _) (v := ?v3) rfl (by kernel_rfl) (by kernel_rfl) (by kernel_rfl) (fun _ _ _ h => h) (Or.inl ⟨by rfl, ?hy3⟩) (by assumption) ?rest3
    case hy3 => (intro V hSw; (try dsimp only at hSw); go_simp) <;> with_reducible rfl
    simp only [Act.put, List.getElem_toArray, List.getElem_cons_succ, List.getElem_cons_zero, List.setIfInBounds_toArray, List.set_cons_zero, List.set_cons_succ]
    refine wpAnyH_take (i := 4) (oi := _) (v := ?v4) rfl (by kernel_rfl) (by kernel_rfl) (by kernel_rfl) (fun _ _ _ h => h) (Or.inl ⟨by rfl, ?hy4⟩) (by assumption) ?rest4
    case hy4 => (intro V hSw; (try dsimp only at hSw); go_simp) <;> with_reducible rfl
    simp only [Act.put, List.getElem_toArray, List.getElem_cons_succ, List.getElem_cons_zero, List.setIfInBounds_toArray, List.set_cons_zero, List.set_cons_succ]
    refine wpAnyH_take (i := 5) (oi := _) (v := ?v5) rfl (by kernel_rfl) (by kernel_rfl) (by kernel_rfl) (fun _ _ _ h => h) (Or.inl ⟨by rfl, ?hy5⟩) (by assumption) ?rest5
    case hy5 => (intro V hSw; (try dsimp only at hSw); go_simp) <;> with_reducible rfl
    simp only [Act.put, List.getElem_toArray, List.getElem_cons_succ, List.getElem_cons_zero, List.setIfInBounds_toArray, List.set_cons_zero, List.set_cons_succ]
    refine wpAnyH_take (i := 6) (oi := _) (v := ?v6) rfl (by kernel_rfl) (by kernel_rfl) (by kernel_rfl) (fun _ _ _ h => h) (Or.inl ⟨by rfl, ?hy6⟩) (by assumption) ?rest6
    case hy6 => (intro V hSw; (try dsimp only at hSw); go_simp) <;> with_reducible rfl
    simp only [Act.put, List.getElem_toArray, List.getElem_cons_succ, List.getElem_cons_zero, List.setIfInBounds_toArray, List.set_cons_zero, List.set_cons_succ]
    refine wpAnyH_take (i := 7) (oi := _) (v := ?v7) rfl (by kernel_rfl) (by kernel_rfl) (by kernel_rfl) (fun _ _ _ h => h) (Or.inl ⟨by rfl, ?hy7⟩) (by assumption) ?rest7
    case hy7 => (intro V hSw; (try dsimp only at hSw); go_simp) <;> with_reducible rfl
    simp only [Act.put, List.getElem_toArray, List.getElem_cons_succ, List.getElem_cons_zero, List.setIfInBounds_toArray, List.set_cons_zero, List.set_cons_succ]
    refine wpAnyH_take (i := 8) (oi := _) (v := ?v8) rfl (by kernel_rfl) (by kernel_rfl) (by kernel_rfl) (fun _ _ _ h => h) (Or.inl ⟨by rfl, ?hy8⟩) (by assumption) ?rest8
    case hy8 => (intro V hSw; (try dsimp only at hSw); go_simp) <;> with_reducible rfl
    simp only [Act.put, List.getElem_toArray, List.getElem_cons_succ, List.getElem_cons_zero, List.setIfInBounds_toArray, List.set_cons_zero, List.set_cons_succ]
    refine wpAnyH_ready (rs := [9]) (by kernel_rfl) (by simp) ?_
    refine AllReadyH.cons (o := _) rfl (fun K hK => ?_) AllReadyH.nil
    go_simp
    refine (HST.out _ (grown_trans HB.out.2.2.2 (grown_drew (World.grownBy.refl W none)))).mono ?_
    rintro e w9 ⟨rfl, hk9⟩
    have HK9 := Lib.hid (grown_trans (grown_drew (World.grownBy.refl W none)) hk9)
    clear hk9
    go_wp2_with fail
    refine hK.out _ _ (HSS.out _ HK9.out) (fun hHeld => ?_)
    clear hK K
    try simp only [Act.put, List.setIfInBounds_toArray, List.set_cons_zero, List.set_cons_succ]
    refine wpAnyH_take (i := 10) (oi := _) (v := ?v10) rfl (by kernel_rfl) (by kernel_rfl) (by kernel_rfl) (fun _ _ _ h => h) (Or.inl ⟨by rfl, ?hy10⟩) (by assumption) ?rest10
    case hy10 => (intro V hSw; (try dsimp only at hSw); go_simp) <;> with_reducible rfl
    simp only [Act.put, List.getElem_toArray, List.getElem_cons_succ, List.getElem_cons_zero, List.setIfInBounds_toArray, List.set_cons_zero, List.set_cons_succ]
    refine wpAnyH_ready (rs := [11]) (by kernel_rfl) (by simp) ?_
    refine AllReadyH.cons (o := _) rfl (fun K hK => ?_) AllReadyH.nil
    rw [if_pos (by rfl)]
    have hT9 := there_to HB.out.2.1 HK9.out (by simp)
    refine wp_store_mid _ _ _ rfl (W1.heap.size + 1) (I.toNat * 16) es rfl rfl (there_sub hT9 (by omega) (by have := HCS.out.2.1; omega)) (by rw [HCS.out.2.1]; exact info16) HCS.out.2.2.1 ?_
    have hne : ∀ q, q ≠ W1.heap.size + 1 → q = W1.heap.size + 1 → ∀ P : Prop, P := fun q h1 h2 => absurd h2 h1
    have hSf : ∀ V : World, V.cell? ⟨W1.heap.size + 1 + 1, 0, none⟩ = some (.slice (some ⟨W1.heap.size + 1, 0, none⟩) 68 68) ∧ V.cell? ⟨w.heap.size + 1, 0, none⟩ = some (.int .i64 lf) ∧ V.cell? ⟨W1.heap.size, 0, none⟩ = some (.slice (some ⟨g, 0, none⟩) 68 cap) ∧ V.cell? ⟨g, I.toNat, none⟩ = some (.int .i64 x) ∧ V.rangeAt gx 0 csl → (V.setCells (W1.heap.size + 1) (I.toNat * 16) es.toList).cell? ⟨W1.heap.size + 1 + 1, 0, none⟩ = some (.slice (some ⟨W1.heap.size + 1, 0, none⟩) 68 68) ∧ (V.setCells (W1.heap.size + 1) (I.toNat * 16) es.toList).cell? ⟨w.heap.size + 1, 0, none⟩ = some (.int .i64 lf) ∧ (V.setCells (W1.heap.size + 1) (I.toNat * 16) es.toList).cell? ⟨W1.heap.size, 0, none⟩ = some (.slice (some ⟨g, 0, none⟩) 68 cap) ∧ (V.setCells (W1.heap.size + 1) (I.toNat * 16) es.toList).cell? ⟨g, I.toNat, none⟩ = some (.int .i64 x) ∧ (V.setCells (W1.heap.size + 1) (I.toNat * 16) es.toList).rangeAt gx 0 csl := fun V h => by
      refine ⟨(World.cell?_setCells_out _ _ _ _ _ (fun e => ?_)).trans h.1, (World.cell?_setCells_out _ _ _ _ _ (fun e => ?_)).trans h.2.1, (World.cell?_setCells_out _ _ _ _ _ (fun e => ?_)).trans h.2.2.1, (World.cell?_setCells_out _ _ _ _ _ (fun e => ?_)).trans h.2.2.2.1, World.rangeAt_setCells_apart h.2.2.2.2 _ _ _ (.inl (by omega))⟩
      all_goals (dsimp only at e; omega)
    refine hK.out _ _ (hSf _ (HSS.out _ HK9.out)) (fun _ => ?_)
    refine wpAnyH_done (by kernel_rfl) ?_ _
    have hG6 : W.grownBy (w9.setCells (W1.heap.size + 1) (I.toNat * 16) es.toList) (some (W1.heap.size + 1)) := grown_setCells (W1.heap.size + 1) _ _ _ (grown_weak HK9.out _)
    have hsW := HB.out.1.size
    refine ⟨KeepsFrom.of_grownBy hG6 (fun j e => by have := Option.some.inj e; omega), KpS.grown hG6 (fun e => by have := Option.some.inj e; omega) (by omega) (by omega) (fun e => by have := Option.some.inj e; omega) (fun e => by have := Option.some.inj e; omega), grown_trans HB.out.1 hG6, World.there_setCells hT9 _ _ _, fun y hy => ?_⟩
    by_cases hyk : y.1 = kk.1
    · rw [hyk, ← HCS.out.2.2.2.1, ← HCS.out.1]
      exact World.rangeAt_setCells_same _ _ _ _ (there_sub hT9 (by omega) (by rw [Array.length_toList, HCS.out.2.1]; omega))
    · have hyp : y ∈ pre := by
        rcases List.mem_append.1 hy with h | h
        · exact h
        · rw [List.mem_singleton] at h; exact absurd (congrArg Fin.val h) hyk
      refine World.rangeAt_setCells_apart (range_to (HB.out.2.2.1 y hyp) HK9.out (by simp)) _ _ _ (.inr ?_)
      rw [Array.length_toList, Array.length_toList, arr_size, (sigS_dig _ _ _ _).1, HCS.out.2.1, HCS.out.1]
      omega
  case done =>
    rintro Dd ys W hDd hys ⟨hG, hT, hR⟩ hK
    have hGw : w.grownBy W none := grown_fresh HW.out.2.2.2.2.2 hG (by omega)
    have k9 : W.cell? ⟨W1.heap.size + 1 + 1, 0, none⟩ = some (.slice (some ⟨W1.heap.size + 1, 0, none⟩) 68 68) := (HW.out.2.2.2.1.grown hG (fun e => by have := Option.some.inj e; omega)).cell 0
    have H9 := Lib.hid (And.intro hG (And.intro hT (And.intro hR hGw)))
    have HK := Lib.hid (And.intro hK (And.intro hDd hys))
    clear hG hT hR hGw hK hDd hys
    gi_wp2
    refine ⟨by simp, .inl ⟨_, _, rfl, run_takeDeferred HK.out.1, ?_⟩⟩
    have hp := grownBy_putObj' W Dd (.deferred none)
    have hne : some (W1.heap.size + 1) ≠ some Dd := fun e => by have := Option.some.inj e; have := HK.out.2.1; omega
    refine ⟨_, results_tmp2 rfl _ _ _, W1.heap.size + 1, rfl, by omega, there_to H9.out.2.1 hp hne, fun j hj => ?_, grown_fresh H9.out.2.2.2 hp (by have := HK.out.2.1; omega)⟩
    rw [sigsS_length] at hj
    rw [sigsS, upto_getD hj, Nat.zero_add]
    exact range_to (H9.out.2.2.1 ⟨j, hj⟩ (HK.out.2.2 _)) hp hne
  case stop => rintro Dd c pre W hD hk h hK; exact h.elim
end Go.Proofs.YthkjlgjbjjjohaaGreatDoor
/-
  chains.Public and chains.Sign by no leaf.
-/
namespace Go.Proofs.YthkjlgjbjjjohaaGreatDoor
open Go.RowKit

set_option maxRecDepth 100000 in
set_option maxHeartbeats 4000000 in
theorem pub_no (w : World) (B : Nat) (a : Addr) (hE : ErrAt w B (gix.getD 0 0) a) (lf : Int) (hlf : lf < 0 ∨ 32 ≤ lf) (ds : Array Value) (hds : ds.size = 16) (zs : Array Value) (hzs : zs = arrV .u8 (List.replicate 16 0)) :
    Calls Tryz.prog 34 #[.agg ds, .int .i64 lf] w fun e w' => e = .returned (.tuple #[.agg zs, errV a]) ∧ w.grownBy w' none := by
  obtain ⟨zl, hzl⟩ : ∃ l, l = zs.toList := ⟨_, rfl⟩
  have hz : zs = zl.toArray := by rw [hzl, Array.toArray_toList]
  have hz16 : ∀ w, Sem.run Tryz.prog (zeroValue 23) w = .ok (.agg zl.toArray) w := fun w => by rw [← hz, hzs]; exact z16run w
  have hzn : zl.length = 16 := by rw [hzl, Array.length_toList, hzs]; rfl
  have hi6 : (Tryz.prog.info? 23).map (·.size) = some zl.length := by rw [hzn]; exact info16
  have ho6 : ∀ v ∈ zl, v.oneCell' = true := by rw [hzl, hzs]; simp [Value.oneCell']
  have HZ := Lib.hid (And.intro hz (And.intro hzn (show (zs.all fun v => v.oneCell') = true by rw [hzs]; exact arr_one _ _)))
  have HLF := Lib.hid hlf
  have HE := Lib.hid hE
  have HDS := Lib.hid hds
  have HZL := Lib.hid hzl
  have hB0 : 0 < w.heap.size := by
    have := World.block_lt_of_cell? w _ hE.1
    simpa only [gix, List.getD_cons_zero] using this
  clear hzl hzs hlf hE hds
  go_enter Tryz.func34, Tryz.ntmps34
  obtain ⟨w0, hw0⟩ : ∃ w0, w0 = ((w.alloc (.cells ds 23)).alloc (.cells #[.int .i64 lf] 3)).alloc (.cells zl.toArray 23) := ⟨_, rfl⟩
  have HZ0 := Lib.hid (show Blk w0 (w.heap.size + 1 + 1) 23 zs by rw [hw0, hz]; have := Blk.new ((w.alloc (.cells ds 23)).alloc (.cells #[.int .i64 lf] 3)) 23 zl.toArray; rwa [World.size_alloc, World.size_alloc] at this)
  have HG0 := Lib.hid (show w.grownBy w0 none by rw [hw0]; exact grown_trans (grown_trans (World.grownBy_alloc _ _ none) (World.grownBy_alloc _ _ none)) (World.grownBy_alloc _ _ none))
  have HW0 := Lib.hid hw0
  clear hw0
  go_wp2_with fail
  rw [← HW0.out]
  refine (isleaf_no w0 lf HLF.out).mono ?_
  rintro e w9 ⟨rfl, h9⟩
  rw [h9]
  clear h9
  go_wp2_with fail
  have hT : w0.drew.there (w.heap.size + 1 + 1) 0 16 := there_blk HZ0.out.drew (by rw [HZ.out.1, List.size_toArray, HZ.out.2.1]; exact Nat.le_refl _)
  have hc : w0.drew.cell? ⟨gix.getD 0 0, 0, none⟩ = some (errV a) := by
    rw [World.cell?_drew]; exact HG0.out.cell HE.out.1 (by simp)
  simp only [gix, List.getD_cons_zero] at hc
  have hS := And.intro hT hc
  have hgb : ¬ 0 = w.heap.size + 1 + 1 := by omega
  clear hT hc
  go_region_held3 (fun W => W.there (w.heap.size + 1 + 1) 0 16 ∧ W.cell? ⟨0, 0, none⟩ = some (errV a)) (first | exact hS | assumption | exact ⟨World.there_setCells hS.1 _ _ _, (World.cell?_setCells_out _ _ _ _ _ (fun e => absurd e hgb)).trans hS.2⟩)
    (fail)
  have HB9 := Lib.hid HZ0.out.drew
  have HG9 := Lib.hid (show w.grownBy w0.drew none from grown_trans HG0.out (grown_drew (World.grownBy.refl w0 none)))
  have HEQ := Lib.hid (show w0.drew.setCells (w.heap.size + 1 + 1) 0 zl = w0.drew.setRow (w.heap.size + 1 + 1) zs by
    rw [HZL.out]
    exact setCells_row (P := Tryz.prog) HB9.out (by rw [HZ.out.1, List.size_toArray, HZ.out.2.1]; exact info16) rfl HZ.out.2.2)
  rw [HEQ.out]
  go_wp2_with fail
  refine bodyPost_ret (results_cell_t rfl _ _ _ ⟨w.heap.size + 1 + 1, 0, none⟩ (.agg zs) rfl (run_loadVar_row _ (w.heap.size + 1 + 1) 23 23 zs (0, 0) _ (HB9.out.row zs) Tryz.underlying23 rfl (by rw [HZ.out.1, List.size_toArray, HZ.out.2.1]; exact info16))) rfl ?_
  exact ⟨rfl, grown_row HG9.out (.inl (by omega)) zs⟩
set_option maxRecDepth 100000 in
set_option maxHeartbeats 4000000 in
theorem sign_no (w : World) (B : Nat) (a : Addr) (hE : ErrAt w B (gix.getD 0 0) a) (lf : Int) (hlf : lf < 0 ∨ 32 ≤ lf) (ds dd : Array Value) :
    Calls Tryz.prog 120 #[.agg ds, .int .i64 lf, .agg dd] w fun e w' => e = .returned (.tuple #[.slice none 0 0, errV a]) ∧ w.grownBy w' none := by
  have HLF := Lib.hid hlf
  have HE := Lib.hid hE
  clear hlf hE
  go_enter Tryz.func120, Tryz.ntmps120
  obtain ⟨w0, hw0⟩ : ∃ w0, w0 = ((w.alloc (.cells ds 23)).alloc (.cells #[.int .i64 lf] 3)).alloc (.cells dd 23) := ⟨_, rfl⟩
  have HG0 := Lib.hid (show w.grownBy w0 none by rw [hw0]; exact grown_trans (grown_trans (World.grownBy_alloc _ _ none) (World.grownBy_alloc _ _ none)) (World.grownBy_alloc _ _ none))
  have HW0 := Lib.hid hw0
  clear hw0
  go_wp2_with fail
  rw [← HW0.out]
  refine (isleaf_no w0 lf HLF.out).mono ?_
  rintro e w9 ⟨rfl, h9⟩
  rw [h9]
  clear h9
  go_wp2_with fail
  have hc : w0.drew.cell? ⟨gix.getD 0 0, 0, none⟩ = some (errV a) := by
    rw [World.cell?_drew]; exact HG0.out.cell HE.out.1 (by simp)
  simp only [gix, List.getD_cons_zero] at hc
  go_region_held3 (fun W => W.cell? ⟨0, 0, none⟩ = some (errV a)) (first | exact hc | assumption)
    (fail)
  go_wp2_with fail
  refine bodyPost_ret (results_tmp2 rfl _ _ _) rfl ?_
  exact ⟨rfl, grown_trans HG0.out (grown_drew (World.grownBy.refl w0 none))⟩
end Go.Proofs.YthkjlgjbjjjohaaGreatDoor
