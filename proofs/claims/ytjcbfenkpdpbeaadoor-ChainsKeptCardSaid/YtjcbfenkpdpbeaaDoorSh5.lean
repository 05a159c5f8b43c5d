/-
  SHA-256: the start, a word's bytes, the end.
-/
import Derived.Test.YtjcbfenkpdpbeaaDoorSh4
import Derived.Laws.MakeOwn
namespace Go.Proofs.YtjcbfenkpdpbeaaDoor
open Go.RowKit

def wordB (x : Int) : List Int := [x / 16777216 % 256, x / 65536 % 256, x / 256 % 256, x % 256]
def startS : HS := ⟨[1779033703, 3144134277, 1013904242, 2773480762, 1359893119, 2600822924, 528734635, 1541459225], List.replicate 64 0, 0⟩

theorem arr_set4 {l : List Int} {o : Nat} (a b c d : Int) : ((((arrV .u8 l).setIfInBounds o (.int .u8 a)).setIfInBounds (o + 1) (.int .u8 b)).setIfInBounds (o + 2) (.int .u8 c)).setIfInBounds (o + 3) (.int .u8 d) = arrV .u8 (over l o [a, b, c, d]) := by
  simp only [arr_set, over]

set_option maxHeartbeats 1000000 in
theorem put_is (w : World) (g o n c : Nat) (t : TypeId) (l : List Int) (x : Int) (hB : Blk w g t (arrV .u8 l)) (ho : o + 4 ≤ l.length) (hn : 4 ≤ n) :
    Calls Tryd.prog 41 #[.slice (some ⟨g, o, none⟩) n c, .int .u32 x] w fun e w' => e = .returned (.tuple #[]) ∧ Blk w' g t (arrV .u8 (over l o (wordB x))) ∧ w.grownBy w' (some g) := by
  have hb1 : ∀ i, i < 4 → ∃ v, w.cell? ⟨g, o + i, none⟩ = some v := fun i hi => by
    rw [hB.cell, arr_get (by omega)]; exact ⟨_, rfl⟩
  obtain ⟨v0, c0⟩ := hb1 0 (by omega)
  obtain ⟨v1, c1⟩ := hb1 1 (by omega)
  obtain ⟨v2, c2⟩ := hb1 2 (by omega)
  obtain ⟨v3, c3⟩ := hb1 3 (by omega)
  have f0 := hB.frozen o
  have f1 := hB.frozen (o + 1)
  have f2 := hB.frozen (o + 2)
  have f3 := hB.frozen (o + 3)
  rw [Nat.add_zero] at c0
  have HB := Lib.hid hB
  have n0 : (0 : Int) < (n : Int) := by omega
  have n1 : (1 : Int) < (n : Int) := by omega
  have n2 : (2 : Int) < (n : Int) := by omega
  have n3 : (3 : Int) < (n : Int) := by omega
  clear hB hb1
  go_enter Tryd.func41, Tryd.ntmps41
  go_wp2_with fail
  go_end0
  refine ⟨rfl, ?_, ?_⟩
  · have h := (((HB.out.set o (.int .u8 (x / 16777216 % 256))).set (o + 1) (.int .u8 (x / 65536 % 256))).set (o + 2) (.int .u8 (x / 256 % 256))).set (o + 3) (.int .u8 (x % 256))
    rw [arr_set4] at h
    exact h
  · have e1 := grown_far (World.grownBy.refl w (some g)) (p := ⟨g, o, none⟩) (.inr rfl) (.int .u8 (x / 16777216 % 256))
    have e2 := grown_far e1 (p := ⟨g, o + 1, none⟩) (.inr rfl) (.int .u8 (x / 65536 % 256))
    have e3 := grown_far e2 (p := ⟨g, o + 2, none⟩) (.inr rfl) (.int .u8 (x / 256 % 256))
    exact grown_far e3 (p := ⟨g, o + 3, none⟩) (.inr rfl) (.int .u8 (x % 256))

theorem zero_run {P : Program} {t : TypeId} {v : Value} (w : World) (h : (P.info? t).bind (·.zero) = some v) : Sem.run P (zeroValue t) w = .ok v w := by
  cases hq : P.info? t with
  | none => simp [hq] at h
  | some i =>
    have h1 : i.zero = some v := by simpa [hq] using h
    simp [zeroValue, typeInfo, hq, h1]
def hash0 : Array Value := hashV (List.replicate 8 0) (List.replicate 64 0) 0
theorem zeroHash (w : World) : Sem.run Tryd.prog (zeroValue 79) w = .ok (.agg hash0) w :=
  zero_run w (by kernel_rfl)
theorem hash_size (ws bs : List Int) (n : Int) (h8 : ws.length = 8) (h64 : bs.length = 64) : (hashV ws bs n).size = 73 := by simp [hashV, h8, h64]
theorem hash_one (ws bs : List Int) (n : Int) : ((hashV ws bs n).all fun x => x.oneCell') = true := by simp [hashV, Value.oneCell']
theorem hash_info : (Tryd.prog.info? 79).map (·.size) = some 73 := by kernel_rfl
theorem startS_ok : startS.ws.length = 8 ∧ startS.bs.length = 64 := ⟨rfl, rfl⟩

set_option maxRecDepth 100000 in
set_option maxHeartbeats 1000000 in
theorem start_is (w : World) : Calls Tryd.prog 39 #[] w fun e w' => e = .returned (.agg (hashV startS.ws startS.bs 0)) ∧ w.grownBy w' none := by
  obtain ⟨C0, hC0⟩ : ∃ C0, C0 = hash0 := ⟨_, rfl⟩
  have hz : ∀ w, Sem.run Tryd.prog (zeroValue 79) w = .ok (.agg C0) w := fun w => by rw [hC0]; exact zeroHash w
  have hsz : C0.size = 73 := by rw [hC0]; rfl
  have HC := Lib.hid hC0
  clear hC0
  obtain ⟨C1, hC1⟩ : ∃ C1, C1 = (((((((C0.setIfInBounds 0 (.int .u32 1779033703)).setIfInBounds 1 (.int .u32 3144134277)).setIfInBounds 2 (.int .u32 1013904242)).setIfInBounds 3 (.int .u32 2773480762)).setIfInBounds 4 (.int .u32 1359893119)).setIfInBounds 5 (.int .u32 2600822924)).setIfInBounds 6 (.int .u32 528734635)).setIfInBounds 7 (.int .u32 1541459225) := ⟨_, rfl⟩
  have H1 : C1 = hashV startS.ws startS.bs 0 := by rw [hC1, HC.out]; kernel_rfl
  have HS1 := Lib.hid (show C1.size = 73 by rw [H1]; exact hash_size _ _ _ rfl rfl)
  have HO1 := Lib.hid (show (C1.all fun x => x.oneCell') = true by rw [H1]; exact hash_one _ _ _)
  have HI1 := Lib.hid (show (Tryd.prog.info? 79).map (·.size) = some C1.size by rw [HS1.out]; exact hash_info)
  have H1' := Lib.hid H1
  clear H1
  have HC1 := Lib.hid hC1
  clear hC1
  go_enter Tryd.func39, Tryd.ntmps39
  go_wp2_with (rw [← HC1.out]; refine wpList_store_row rfl 79 _ _ rfl w.heap.size C1 rfl rfl 79 _ (heap_alloc_new w _) HI1.out (by rw [HS1.out]; exact hsz) HO1.out ?_)
  have hB1 := Blk.row (Blk.new w 79 C0) C1
  refine bodyPost_ret (results_cell rfl _ _ _ ⟨w.heap.size, 0, none⟩ (.agg C1) rfl (run_loadVar_row _ w.heap.size 79 79 C1 (0, 0) _ hB1 Tryd.underlying79 rfl HI1.out)) rfl ?_
  exact ⟨by rw [H1'.out], grown_row (World.grownBy_alloc w _ none) (.inl (Nat.le_refl _)) C1⟩
end Go.Proofs.YtjcbfenkpdpbeaaDoor
