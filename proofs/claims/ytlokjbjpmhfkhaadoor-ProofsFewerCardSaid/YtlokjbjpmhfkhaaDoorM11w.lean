/-
  Several texts in one: ChQ, ChD, ChGo.
-/
import Derived.Test.YtlokjbjpmhfkhaaDoorM11v
import Derived.Test.YtlokjbjpmhfkhaaDoorM11j
import Derived.Test.YtlokjbjpmhfkhaaDoorM11s
import Derived.Test.YtlokjbjpmhfkhaaDoorM11t
import Derived.Test.YtlokjbjpmhfkhaaDoorM11r
import Derived.Test.YtlokjbjpmhfkhaaDoorM11a
import Derived.Test.YtlokjbjpmhfkhaaDoorM11m
/-
  A leaf's ends, its public digest, its signatures, as lists of numbers.
-/
namespace Go.Proofs.YtlokjbjpmhfkhaaDoor
open Go.RowKit

theorem pubC_isdig (lf : Int) (ends : List Int) : isDig (pubC lf ends) := by rw [pubC]; exact ofS_dig _ _
/-- What chain k of a leaf ends with. -/
def endS (seed : List Int) (lf : Int) (k : Nat) : List Int := runC (secC seed lf k) lf k 0 3
theorem endS_dig (seed : List Int) (lf : Int) (k : Nat) : isDig (endS seed lf k) := by rw [endS]; exact runC_dig _ _ _ _ (secC_dig _ _ _) _
def pubS (seed : List Int) (lf : Int) : List Int := pubC lf (rowC (endS seed lf) 68)
theorem pubS_dig (seed : List Int) (lf : Int) : isDig (pubS seed lf) := by rw [pubS]; exact pubC_isdig _ _
/-- The pieces of these rounds, one behind the other. -/
def rowL (f : Nat → List Int) (pre : List Nat) : List Int := (pre.map f).flatten
theorem rowL_snoc (f : Nat → List Int) (pre : List Nat) (k : Nat) : rowL f (pre ++ [k]) = rowL f pre ++ f k := by simp [rowL]
theorem rowL_upto (f : Nat → List Int) : ∀ n, rowL f (upto id n) = rowC f n
  | 0 => rfl
  | n + 1 => by rw [upto_succ, rowL_snoc, rowL_upto f n, rowC]; rfl
theorem rowC_congr {f g : Nat → List Int} : ∀ n, (∀ k, k < n → f k = g k) → rowC f n = rowC g n
  | 0, _ => rfl
  | n + 1, h => by rw [rowC, rowC, rowC_congr n (fun k hk => h k (by omega)), h n (by omega)]
/-- Digit k of a digest. -/
def digN (d : List Int) (k : Nat) : Nat := ((digitsS d).getD k 0).toNat
theorem dig_range (d : List Int) (k : Nat) : 0 ≤ (digitsS d).getD k 0 ∧ (digitsS d).getD k 0 ≤ 3 := by
  by_cases hl : k < (digitsS d).length
  · rw [List.getD, List.getElem?_eq_getElem hl]
    exact digitsS_range d _ (List.getElem_mem hl)
  · rw [List.getD, List.getElem?_eq_none (by omega)]
    simp
/-- Chain k of a leaf's signature. -/
def sigS (seed : List Int) (lf : Int) (d : List Int) (k : Nat) : List Int := runC (secC seed lf k) lf k 0 (digN d k)
theorem sigS_dig (seed : List Int) (lf : Int) (d : List Int) (k : Nat) : isDig (sigS seed lf d k) := by rw [sigS]; exact runC_dig _ _ _ _ (secC_dig _ _ _) _
def sigsS (seed : List Int) (lf : Int) (d : List Int) : List (List Int) := upto (sigS seed lf d) 68
theorem sigsS_length (seed : List Int) (lf : Int) (d : List Int) : (sigsS seed lf d).length = 68 := upto_length _ _
theorem sigsS_dig (seed : List Int) (lf : Int) (d : List Int) : ∀ p ∈ sigsS seed lf d, isDig p := fun p hp => by
  obtain ⟨k, _, rfl⟩ := List.mem_map.1 hp
  exact sigS_dig _ _ _ _
theorem upto_getD {f : Nat → List Int} {n k : Nat} (h : k < n) : (upto f n).getD k zeroC = f k := by
  simp [upto, List.getD, List.getElem?_map, List.getElem?_range h]
theorem endC_sigs (seed : List Int) (lf : Int) (d : List Int) (k : Nat) (hk : k < 68) : endC (sigsS seed lf d) d lf k = endS seed lf k := by
  obtain ⟨h0, h3⟩ := dig_range d k
  rw [endC, sigsS, upto_getD hk, sigS, endS]
  have := runC_add (secC seed lf k) lf k 0 (digN d k) (3 - (digitsS d).getD k 0).toNat
  rw [show digN d k + (3 - (digitsS d).getD k 0).toNat = 3 by unfold digN; omega, show (0 : Int) + (digN d k : Int) = (digitsS d).getD k 0 by unfold digN; omega] at this
  exact this.symm
/-- A signature is recovered to the public digest. -/
theorem recC_sigs (seed : List Int) (lf : Int) (d : List Int) : recC lf (sigsS seed lf d) d = pubS seed lf := by
  rw [recC, pubS, rowC_congr 68 (fun k hk => endC_sigs seed lf d k hk)]
end Go.Proofs.YtlokjbjpmhfkhaaDoor
/-
  chains.public and quorateref03.Ended.
-/
namespace Go.Proofs.YtlokjbjpmhfkhaaDoor
open Go.RowKit

theorem pubC_dig (lf : Int) (ends : List Int) : isDig (pubC lf ends) := by rw [pubC]; exact ofS_dig _ _
set_option maxRecDepth 100000 in
set_option maxHeartbeats 2000000 in
theorem public_is (w : World) (hR : Rounds w) (lf : Int) (A : Option Addr) (m c : Nat) (L : List Int) (hm : L.length = m) (hc : m ≤ c) (hL : BytesI w A L) (h2 : m ≤ 2000) :
    Calls Tryd.prog 63 #[.int .i64 lf, .slice A m c] w fun e w' => e = .returned (.agg (arrV .u8 (pubC lf L))) ∧ w.grownBy w' none := by
  obtain ⟨Z16, hZ16⟩ : ∃ Z, Z = arrV .u8 (List.replicate 16 0) := ⟨_, rfl⟩
  have hz16 : ∀ w, Sem.run Tryd.prog (zeroValue 32) w = .ok (.agg Z16) w := fun w => by rw [hZ16]; exact z16run w
  have hZs : Z16.size = 16 := by rw [hZ16]; rfl
  have hps : ∀ p ∈ [[lf % 256], L], p.length ≤ 65536 := by
    intro p hp
    have : p.length = m ∨ p.length = 1 := by
      simp only [List.mem_cons, List.not_mem_nil, or_false] at hp
      rcases hp with rfl | rfl
      · exact .inr rfl
      · exact .inl hm
    omega
  have HR := Lib.hid hR
  have HA := Lib.hid (And.intro hm (And.intro hc hL))
  have HZS := Lib.hid hZs
  clear hZ16 hZs hR hm hc hL
  go_enter Tryd.func63, Tryd.ntmps63
  go_wp2_with fail
  obtain ⟨w0, hw0⟩ : ∃ w0, w0 = w.alloc (.cells Z16 32) := ⟨_, rfl⟩
  rw [← hw0]
  have HZ0 := Lib.hid (show Blk w0 w.heap.size 32 Z16 by rw [hw0]; exact Blk.new w _ Z16)
  have HG0 := Lib.hid (show w.grownBy w0 none by rw [hw0]; exact World.grownBy_alloc _ _ none)
  clear hw0
  obtain ⟨c6, hc6⟩ : ∃ c6, c6 = arrV .u8 (pubC lf L) := ⟨_, rfl⟩
  have hs16 : c6.size = 16 := by rw [hc6, arr_size]; exact (pubC_dig _ _).1
  have HS6 := Lib.hid (And.intro hs16 (And.intro (show (c6.all fun x => x.oneCell') = true by rw [hc6]; exact arr_one _ _) hc6))
  have HL6 := Lib.hid (show arrV .u8 (ofS 3 [[lf % 256], L]) = c6 by rw [hc6, pubC])
  have W1 : w0.grownBy (w0.alloc (.cells #[.int .u8 (lf % 256)] 5)) none := World.grownBy_alloc _ _ none
  have W3 := grown_trans W1 (World.grownBy_alloc _ (.cells #[.slice (some ⟨w0.heap.size, 0, none⟩) 1 1, .slice A m c] 25) none)
  have HP := Lib.hid (show PartsI ((w0.alloc (.cells #[.int .u8 (lf % 256)] 5)).alloc (.cells #[.slice (some ⟨w0.heap.size, 0, none⟩) 1 1, .slice A m c] 25)) (some ⟨w0.heap.size + 1, 0, none⟩) [[lf % 256], L] from by
    have := parts_new (w0.alloc (.cells #[.int .u8 (lf % 256)] 5)) 25 #[.slice (some ⟨w0.heap.size, 0, none⟩) 1 1, .slice A m c] [[lf % 256], L] (fun j hj => by
      have : j = 0 ∨ j = 1 := by simp at hj; omega
      rcases this with rfl | rfl
      · exact ⟨_, 1, 1, rfl, rfl, Nat.le_refl _, bytes_blk (t := 5) ((Blk.new w0 5 (arrV .u8 [lf % 256])).alloc _)⟩
      · exact ⟨_, m, c, rfl, HA.out.1, HA.out.2.1, (HA.out.2.2.grown HG0.out).grown W3⟩)
    simpa using this)
  have HW3 := Lib.hid (And.intro W3 (grown_trans HG0.out W3))
  clear hs16 hc6 W1 W3
  refine (small_is w0 lf).mono ?_
  rintro e w' ⟨rfl, rfl⟩
  go_wp2_with fail
  refine (of_is _ (HR.out.grown HW3.out.2 (by simp)) 3 _ 2 2 [[lf % 256], L] rfl (by simpa using HP.out) (by omega) hps).mono ?_
  rintro e w9 ⟨rfl, hk9⟩
  rw [HL6.out]
  have HK9 := Lib.hid (grown_trans HW3.out.2 hk9)
  have HB9 := Lib.hid ((HZ0.out.grown HW3.out.1 (by simp)).grown hk9 (by simp))
  clear hk9
  go_wp2_with (refine wpList_store_row rfl 32 _ _ rfl w.heap.size c6 rfl rfl 32 _ HB9.out (by rw [HS6.out.1]; exact info16) (by rw [HZS.out, HS6.out.1]) HS6.out.2.1 ?_)
  refine bodyPost_ret (results_cell rfl _ _ _ ⟨w.heap.size, 0, none⟩ (.agg c6) rfl (run_loadVar_row _ w.heap.size 32 32 c6 (0, 0) _ (HB9.out.row c6) Tryd.underlying32 rfl (by rw [HS6.out.1]; exact info16))) rfl ?_
  exact ⟨by rw [HS6.out.2.2], grown_row HK9.out (.inl (Nat.le_refl _)) c6⟩
end Go.Proofs.YtlokjbjpmhfkhaaDoor
/-
  ChainsGo, walked.
-/
namespace Go.Proofs.YtlokjbjpmhfkhaaDoor
open Go.RowKit

theorem run_v (w : World) (hR : Rounds w) (x : List Int) (hx : isDig x) (lf i fr tq : Int) (h0 : 0 ≤ fr) (h3 : tq ≤ 3) (n : Nat) (hn : n = (tq - fr).toNat) (ds rs : Array Value) (h1 : ds = arrV .u8 x) (h2 : rs = arrV .u8 (runC x lf i fr n)) :
    Calls Tryd.prog 62 #[.agg ds, .int .i64 lf, .int .i64 i, .int .i64 fr, .int .i64 tq] w fun e w' => e = .returned (.agg rs) ∧ w.grownBy w' none := by
  subst h1
  exact run_is w hR x hx lf i fr tq fr tq n (.inr ⟨h0, rfl⟩) (.inl ⟨h3, rfl⟩) hn rs h2
theorem uint_mod (u : Int) (h : 0 ≤ u) : ∃ m : Int, 0 ≤ m ∧ m ≤ 3 ∧ (u.tmod 4 = m ∧ u % 4 = m ∧ IntKind.i64.wrap m = m) := ⟨u % 4, by omega, by omega, Int.tmod_eq_emod_of_nonneg h, rfl, by rw [IntKind.wrap_i64]; omega⟩

end Go.Proofs.YtlokjbjpmhfkhaaDoor
