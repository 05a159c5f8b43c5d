/-
  Disk: both disks side by side; the numbers of the answers' errors.
-/
import Derived.Test.YtmecimhlnajaoaaDoorDkX
import Derived.Test.YtmecimhlnajaoaaDoorDkOp
import Derived.Test.YtmecimhlnajaoaaDoorDkLa
import Derived.Test.YtmecimhlnajaoaaDoorNum
import Derived.Test.YtmecimhlnajaoaaDoorSi
namespace Go.Proofs.YtmecimhlnajaoaaDoor
open Go.RowKit Go.Maps

theorem num_eV (w : World) (B : Nat) (E : Nat → Addr) (he : ErrEnv w B E) (k : Nat) : Calls Tryd.prog 10 #[eV (E 0) (E 5) k] w fun e w' => e = .returned (.int .i64 (nE k)) ∧ w.grownBy w' none := by
  match k with
  | 0 => exact (num_nil w).mono (fun e w' ⟨h1, h2⟩ => ⟨h1, h2 ▸ World.grownBy.refl w none⟩)
  | 1 => exact num_err w B E 0 (by omega) he
  | k + 2 => exact num_err w B E 5 (by omega) he
/-- The program's disk and the document's, apart. -/
def Apart (w0 : World) (d b m p s u v : Nat) : Prop := ∃ B, d < B ∧ b < B ∧ m < B ∧ B ≤ p ∧ B ≤ s ∧ B ≤ u ∧ B ≤ v ∧ w0.heap.size ≤ B
theorem Dsk.kept {w0 w w' : World} {d b m : Nat} {z : DkS} {F : Nat → Prop} (h : Dsk w0 w d b m z) (hk : Kept F w w') (hF : ¬ F d ∧ ¬ F b ∧ ¬ F m) (hlo : ∀ j, F j → w0.heap.size ≤ j) : Dsk w0 w' d b m z :=
  ⟨h.1.kept hk hF, h.2.1.next hk (fun j _ hf => hlo j hf), h.2.2⟩
section
variable {w0 w w' : World} {d b m p s u v : Nat} {y z : DkS}
theorem md_beside (hm : MdIs w p s u v z) (ha : Apart w0 d b m p s u v) (hk : DTurn d b m w w') : MdIs w' p s u v z := by
  obtain ⟨B, h⟩ := ha
  exact hm.kept hk (by omega)
theorem dk_beside (hd : Dsk w0 w d b m z) (ha : Apart w0 d b m p s u v) (hk : Kept (fun j => j = p ∨ j = s ∨ j = u ∨ j = v) w w') : Dsk w0 w' d b m z := by
  obtain ⟨B, h⟩ := ha
  exact hd.kept hk (by omega) (fun j hj => by omega)
end
/-- A sector of a byte, seven, and zero behind. -/
def sevenR (x : Int) : List Int := x :: 7 :: List.replicate 62 0
theorem sevenR_len (x : Int) : (sevenR x).length = 64 := by simp [sevenR]
theorem build_seven (w : World) (x : Int) (es : Array Value) (h : ((sevenR x).map (Value.int .u8)).toArray = es) : Sem.run Tryd.prog (Instr.build 36 #[(0, .int .u8 x), (1, .int .u8 7)]) w = .ok (.agg es) w := by
  subst h
  exact run_build w 36 _ _ (by kernel_rfl)
theorem eq_row (w : World) (r : List Int) (hr : r.length = 64) (es : Array Value) (h : (r.map (Value.int .u8)).toArray = es) : Sem.run Tryd.prog (Op.equalIn 10000 36 (.agg es) (.agg es)) w = .ok true w := by
  have e := eq_arr (P := Tryd.prog) w 9998 Tryd.underlying36 (by kernel_rfl) Tryd.underlying5 (by kernel_rfl) (by kernel_rfl) r r hr hr
  rw [show arrV .u8 r = es from h] at e
  simpa using e
theorem readS_len {w : World} {p s u v : Nat} {z : DkS} (h : MdIs w p s u v z) (i : Int) : (rV z i).length = 64 := by
  unfold rV
  split
  · rename_i hi
    split
    · simp [zeroR]
    · have hi2 : 0 ≤ i ∧ i < (z.syn.length : Int) := by simpa [inR] using hi
      have hs : i.toNat < z.syn.length := by omega
      obtain ⟨h1, h2, ⟨W, h3, hWl, hW64, hWw⟩, h5, h6, h7, _⟩ := h
      unfold readS
      cases e : z.wr[i.toNat]? with
      | none => 
        show (z.syn.getD i.toNat []).length = 64
        rw [List.getD, List.getElem?_eq_getElem hs]; exact h7 _ (List.getElem_mem hs)
      | some o =>
        cases o with
        | none =>
          show (z.syn.getD i.toNat []).length = 64
          rw [List.getD, List.getElem?_eq_getElem hs]; exact h7 _ (List.getElem_mem hs)
        | some r =>
          show r.length = 64
          have := hWw _ _ e
          exact hW64 _ (List.mem_of_getElem? this)
  · simp [zeroR]
end Go.Proofs.YtmecimhlnajaoaaDoor
