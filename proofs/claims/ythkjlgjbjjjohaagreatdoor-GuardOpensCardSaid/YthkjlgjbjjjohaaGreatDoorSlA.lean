/-
  Slots: a slot's bytes (pure); copies into an array of bytes; cuts of it.
-/
import Derived.Test.YthkjlgjbjjjohaaGreatDoorHashA
import Derived.Test.YthkjlgjbjjjohaaGreatDoorHashO
import Derived.Test.YthkjlgjbjjjohaaGreatDoorWireA
import Derived.Test.YthkjlgjbjjjohaaGreatDoorDkG2
namespace Go.Proofs.YthkjlgjbjjjohaaGreatDoor
open Go.RowKit Go.Maps

/-- A slot's first 40 bytes: the count, the length, the record and zeros behind it. -/
def headL (n : Nat) (x : List UInt8) : List Int := intsB (be 8 n) ++ ((min x.length 31 : Nat) : Int) :: (intsB (x.take 31) ++ List.replicate (31 - x.length) 0)
def slotL (n : Nat) (x : List UInt8) : List Int := headL n x ++ (ofS 5 [headL n x] ++ List.replicate 8 0)
theorem headL_len (n : Nat) (x : List UInt8) : (headL n x).length = 40 := by
  simp [headL, intsB, be_length]; omega
theorem slotL_len (n : Nat) (x : List UInt8) : (slotL n x).length = 64 := by
  rw [slotL, List.length_append, headL_len, List.length_append, ofS_length, List.length_replicate]
theorem getD_map_int (l : List Int) (j : Nat) (hj : j < l.length) : (l.map (Value.int .u8))[j]? = some (.int .u8 (l.getD j 0)) := by
  simp [List.getD, List.getElem?_eq_getElem hj]
/-- 'copy' of bytes into a block of bytes that is known whole: as many as there are, and there is room for. -/
theorem copy_any (w : World) (g off dLen dCap : Nat) (A : Option Addr) (n c : Nat) (x L : List Int) (t ty : TypeId) (hg : Blk w g t (arrV .u8 L)) (hx : BytesI w A x) (hn : x.length = n) (hfit : off + min n dLen ≤ L.length) :
    ∃ w1, Sem.run Tryz.prog (Builtin.copy_ #[49, 49] ty #[.slice (some ⟨g, off, none⟩) dLen dCap, .slice A n c]) w = .ok (.int .i64 ((min n dLen : Nat) : Int)) w1 ∧ Blk w1 g t (arrV .u8 (L.take off ++ (x.take (min n dLen) ++ L.drop (off + min n dLen)))) ∧ w.grownBy w1 (some g) := by
  by_cases h0 : min n dLen = 0
  · refine ⟨w, ?_, ?_, World.grownBy.refl w _⟩
    · rw [h0]
      exact run_copy_none w _ _ ty 5 _ A dLen dCap n c Tryz.underlying49 (by kernel_rfl) h0
    · rw [h0]; simpa using hg
  · obtain ⟨ad, rfl, hc⟩ := hx (by rintro rfl; simp at hn; omega)
    have h := copy_run (P := Tryz.prog) w 49 49 ty 5 Tryz.underlying49 (by kernel_rfl) g off dLen dCap ad n c (arrV .u8 L) (arrV .u8 (L.take off ++ (x.take (min n dLen) ++ L.drop (off + min n dLen)))) t hg ((x.take (min n dLen)).map (Value.int .u8)) (min n dLen) (by simp; omega) rfl
      (fun j v hj => by
        have hj2 : j < (x.take (min n dLen)).length := by simpa using (List.getElem?_eq_some_iff.1 hj).1
        rw [getD_map_int _ _ hj2] at hj
        rw [← Option.some.inj hj, hc j (by simp at hj2; omega)]
        rw [List.getD, List.getD, List.getElem?_take_of_lt (by simp at hj2; omega)])
      (by simpa [arrV] using hfit) (by intro v hv; obtain ⟨z, _, rfl⟩ := List.mem_map.1 hv; rfl) (by simp [arrV])
    exact h
theorem sec_size (P : Program) : True := trivial
theorem u8_size : (Tryz.prog.info? 5).map (·.size) = some 1 := by kernel_rfl
theorem sec_all (w : World) (b : Nat) : Sem.run Tryz.prog (Instr.sliceAt 105 (.pointer (some ⟨b, 0, none⟩)) none none none) w = .ok (.slice (some ⟨b, 0, none⟩) 64 64) w := slice_all (P := Tryz.prog) Tryz.underlying105 u8_size
theorem sec_to (w : World) (b q : Nat) (h : q ≤ 64) : Sem.run Tryz.prog (Instr.sliceAt 105 (.pointer (some ⟨b, 0, none⟩)) none (some (.int .i64 (q : Int))) none) w = .ok (.slice (some ⟨b, 0, none⟩) q 64) w := slice_to (P := Tryz.prog) Tryz.underlying105 u8_size h
theorem sec_from (w : World) (b q : Nat) (h : q < 64) : Sem.run Tryz.prog (Instr.sliceAt 105 (.pointer (some ⟨b, 0, none⟩)) (some (.int .i64 (q : Int))) none none) w = .ok (.slice (some ⟨b, q, none⟩) (64 - q) (64 - q)) w := by
  have h := slice_from (P := Tryz.prog) (w := w) (b := b) (o := 0) (t := 105) Tryz.underlying105 u8_size h
  rw [Nat.zero_add] at h
  exact h
theorem sec_mid (w : World) (b : Nat) : Sem.run Tryz.prog (Instr.sliceAt 105 (.pointer (some ⟨b, 0, none⟩)) (some (.int .i64 9)) (some (.int .i64 40)) none) w = .ok (.slice (some ⟨b, 9, none⟩) 31 55) w := by
  cases hi : Tryz.prog.info? 5 with
  | none => have := u8_size; simp [hi] at this
  | some ei =>
    have h1 : ei.size = 1 := by have := u8_size; simpa [hi] using this
    have h4 := run_sliceAt_array_lh (P := Tryz.prog) (w := w) 105 ⟨b, 0, none⟩ (by unfold Program.arrayLen Program.elem; simp [Tryz.underlying105]) .i64 .i64 9 40 (by omega) (by omega) (by unfold Program.arrayLen; simp [Tryz.underlying105])
    rw [h4]
    simp [Program.arrayLen, Program.elem, Tryz.underlying105, slicedAt, sizeOf, typeInfo, hi, h1, Addr.add]
theorem dig_all (w : World) (b : Nat) : Sem.run Tryz.prog (Instr.sliceAt 23 (.pointer (some ⟨b, 0, none⟩)) none none none) w = .ok (.slice (some ⟨b, 0, none⟩) 16 16) w := slice_all (P := Tryz.prog) Tryz.underlying23 u8_size
end Go.Proofs.YthkjlgjbjjjohaaGreatDoor
