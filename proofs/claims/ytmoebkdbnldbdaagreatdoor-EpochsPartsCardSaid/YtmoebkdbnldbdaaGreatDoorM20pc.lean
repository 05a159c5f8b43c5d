/-
  Several texts in one: ArrEq, Vd, Sh, Sh2.
-/
import Derived.Test.YtmoebkdbnldbdaaGreatDoorM20pb
import Derived.ChangeKeysEq
import Derived.Deep.MidRow
import Derived.BigRegion
/-
  Two arrays of numbers, compared.
-/
namespace Go.Proofs.YtmoebkdbnldbdaaGreatDoor
open Go.RowKit

section
variable {P : Program}
theorem eqItems_ints (w : World) (d : Nat) {e : TypeId} {q : IntKind} (he : P.plainKey e = true) (hu : P.underlying e = some (.int q)) (l1 l2 : List Int) : ∀ (is : List Nat), (∀ i ∈ is, i < l1.length ∧ i < l2.length) →
    Sem.run P (Op.eqItems (d + 1) e 1 (arrV q l1) (arrV q l2) is) w = .ok (is.all fun i => l1.getD i 0 == l2.getD i 0) w
  | [], _ => by simp [Op.eqItems]
  | i :: is, h => by
    obtain ⟨h1, h2⟩ := h i (by simp)
    have p1 := run_part_plain (w := w) he (arr_get (q := q) h1)
    have p2 := run_part_plain (w := w) he (arr_get (q := q) h2)
    have p3 := run_equalIn_int w d e q q (l1.getD i 0) (l2.getD i 0) hu
    have ih := eqItems_ints w d he hu l1 l2 is (fun j hj => h j (by simp [hj]))
    simp only [Op.eqItems, Sem.run_bind, Nat.mul_one, p1, p2, p3, Result.andThen_ok]
    cases hb : (l1.getD i 0 == l2.getD i 0) <;> simp_all
theorem eq_arr (w : World) (d : Nat) {t e : TypeId} {n : Nat} {q : IntKind} (ht : P.underlying t = some (.array n e)) (he : P.plainKey e = true) (hu : P.underlying e = some (.int q)) (hce : P.cellsOf e = 1) (hi : (P.info? e).isSome = true) (l1 l2 : List Int) (h1 : l1.length = n) (h2 : l2.length = n) :
    Sem.run P (Op.equalIn (d + 2) t (.agg (arrV q l1)) (.agg (arrV q l2))) w = .ok (decide (l1 = l2)) w := by
  obtain ⟨i, hi⟩ := Option.isSome_iff_exists.1 hi
  rw [run_equalIn_array w (d + 1) _ _ ht hi, hce, eqItems_ints w d he hu l1 l2 _ (fun j hj => by rw [h1, h2]; simpa using hj)]
  congr 1
  rw [Bool.eq_iff_iff, List.all_eq_true, decide_eq_true_iff]
  constructor
  · intro h
    apply List.ext_getElem (by rw [h1, h2])
    intro j hj1 hj2
    have := h j (by rw [List.mem_range]; omega)
    simpa [List.getD, List.getElem?_eq_getElem hj1, List.getElem?_eq_getElem hj2] using this
  · rintro rfl j _
    simp
end
end Go.Proofs.YtmoebkdbnldbdaaGreatDoor
/-
  Validators as letters, and rows of them.
-/
namespace Go.Proofs.YtmoebkdbnldbdaaGreatDoor
open Go.RowKit

/-- A validator: the key's bytes, the power. -/
structure Vd where
  key : List Int
  p : Int
def Vd.cells (x : Vd) : List Value := x.key.map (Value.int .u8) ++ [.int .i64 x.p]
abbrev Vd.val (x : Vd) : Value := .agg x.cells.toArray
def VdsAt (w : World) (A : Option Addr) (V : List Vd) : Prop := V ≠ [] → ∃ b off, A = some ⟨b, off, none⟩ ∧ ∀ k (h : k < V.length), w.rangeAt b (off + k * 17) V[k].cells
theorem range_kept {w w' : World} {b o : Nat} {cs : List Value} (h : w.rangeAt b o cs) (hk : w.grownBy w' none) : w'.rangeAt b o cs := fun j v hv => hk.cell (h j v hv) (by simp)
theorem VdsAt.grown {w w' : World} {A : Option Addr} {V : List Vd} (h : VdsAt w A V) (hk : w.grownBy w' none) : VdsAt w' A V := fun hne => by
  obtain ⟨b, off, rfl, hc⟩ := h hne
  exact ⟨b, off, rfl, fun k hk' => range_kept (hc k hk') hk⟩
theorem Vd.cells_length {x : Vd} (h : x.key.length = 16) : x.cells.length = 17 := by simp [Vd.cells, h]
end Go.Proofs.YtmoebkdbnldbdaaGreatDoor
/-
  SHA-256's words, as the program reckons them; the rotations.
-/

namespace Go.Proofs.YtmoebkdbnldbdaaGreatDoor
open Go.RowKit

/-! ## Words -/

def rr (p q x : Int) : Int := bits BinOp.or IntKind.u32 (x * p % 4294967296) (x / q)
def wordF (b0 b1 b2 b3 : Int) : Int :=
  bits BinOp.or IntKind.u32 (bits BinOp.or IntKind.u32 (bits BinOp.or IntKind.u32 (b0 % 4294967296 * 16777216 % 4294967296) (b1 % 4294967296 * 65536 % 4294967296)) (b2 % 4294967296 * 256 % 4294967296)) (b3 % 4294967296)
def xr (a b : Int) : Int := bits BinOp.xor IntKind.u32 a b
def an (a b : Int) : Int := bits BinOp.and IntKind.u32 a b
theorem rot2 (w : World) (x : Int) : Calls Tryz.prog 86 #[.int .u32 x, .int .i64 (-2)] w fun e w' => e = .returned (.int .u32 (rr 1073741824 4 x)) ∧ w = w' := by
  have c1 : bits BinOp.and IntKind.u64 (IntKind.u64.wrap (-2)) 31 = 30 := by kernel_rfl
  go_enter Tryz.func86, Tryz.ntmps86
  go_wp2
  all_goals (go_ret; exact ⟨rfl, rfl⟩)
theorem rot6 (w : World) (x : Int) : Calls Tryz.prog 86 #[.int .u32 x, .int .i64 (-6)] w fun e w' => e = .returned (.int .u32 (rr 67108864 64 x)) ∧ w = w' := by
  have c1 : bits BinOp.and IntKind.u64 (IntKind.u64.wrap (-6)) 31 = 26 := by kernel_rfl
  go_enter Tryz.func86, Tryz.ntmps86
  go_wp2
  all_goals (go_ret; exact ⟨rfl, rfl⟩)
theorem rot7 (w : World) (x : Int) : Calls Tryz.prog 86 #[.int .u32 x, .int .i64 (-7)] w fun e w' => e = .returned (.int .u32 (rr 33554432 128 x)) ∧ w = w' := by
  have c1 : bits BinOp.and IntKind.u64 (IntKind.u64.wrap (-7)) 31 = 25 := by kernel_rfl
  go_enter Tryz.func86, Tryz.ntmps86
  go_wp2
  all_goals (go_ret; exact ⟨rfl, rfl⟩)
theorem rot11 (w : World) (x : Int) : Calls Tryz.prog 86 #[.int .u32 x, .int .i64 (-11)] w fun e w' => e = .returned (.int .u32 (rr 2097152 2048 x)) ∧ w = w' := by
  have c1 : bits BinOp.and IntKind.u64 (IntKind.u64.wrap (-11)) 31 = 21 := by kernel_rfl
  go_enter Tryz.func86, Tryz.ntmps86
  go_wp2
  all_goals (go_ret; exact ⟨rfl, rfl⟩)
theorem rot13 (w : World) (x : Int) : Calls Tryz.prog 86 #[.int .u32 x, .int .i64 (-13)] w fun e w' => e = .returned (.int .u32 (rr 524288 8192 x)) ∧ w = w' := by
  have c1 : bits BinOp.and IntKind.u64 (IntKind.u64.wrap (-13)) 31 = 19 := by kernel_rfl
  go_enter Tryz.func86, Tryz.ntmps86
  go_wp2
  all_goals (go_ret; exact ⟨rfl, rfl⟩)
theorem rot17 (w : World) (x : Int) : Calls Tryz.prog 86 #[.int .u32 x, .int .i64 (-17)] w fun e w' => e = .returned (.int .u32 (rr 32768 131072 x)) ∧ w = w' := by
  have c1 : bits BinOp.and IntKind.u64 (IntKind.u64.wrap (-17)) 31 = 15 := by kernel_rfl
  go_enter Tryz.func86, Tryz.ntmps86
  go_wp2
  all_goals (go_ret; exact ⟨rfl, rfl⟩)
theorem rot18 (w : World) (x : Int) : Calls Tryz.prog 86 #[.int .u32 x, .int .i64 (-18)] w fun e w' => e = .returned (.int .u32 (rr 16384 262144 x)) ∧ w = w' := by
  have c1 : bits BinOp.and IntKind.u64 (IntKind.u64.wrap (-18)) 31 = 14 := by kernel_rfl
  go_enter Tryz.func86, Tryz.ntmps86
  go_wp2
  all_goals (go_ret; exact ⟨rfl, rfl⟩)
theorem rot19 (w : World) (x : Int) : Calls Tryz.prog 86 #[.int .u32 x, .int .i64 (-19)] w fun e w' => e = .returned (.int .u32 (rr 8192 524288 x)) ∧ w = w' := by
  have c1 : bits BinOp.and IntKind.u64 (IntKind.u64.wrap (-19)) 31 = 13 := by kernel_rfl
  go_enter Tryz.func86, Tryz.ntmps86
  go_wp2
  all_goals (go_ret; exact ⟨rfl, rfl⟩)
theorem rot22 (w : World) (x : Int) : Calls Tryz.prog 86 #[.int .u32 x, .int .i64 (-22)] w fun e w' => e = .returned (.int .u32 (rr 1024 4194304 x)) ∧ w = w' := by
  have c1 : bits BinOp.and IntKind.u64 (IntKind.u64.wrap (-22)) 31 = 10 := by kernel_rfl
  go_enter Tryz.func86, Tryz.ntmps86
  go_wp2
  all_goals (go_ret; exact ⟨rfl, rfl⟩)
theorem rot25 (w : World) (x : Int) : Calls Tryz.prog 86 #[.int .u32 x, .int .i64 (-25)] w fun e w' => e = .returned (.int .u32 (rr 128 33554432 x)) ∧ w = w' := by
  have c1 : bits BinOp.and IntKind.u64 (IntKind.u64.wrap (-25)) 31 = 7 := by kernel_rfl
  go_enter Tryz.func86, Tryz.ntmps86
  go_wp2
  all_goals (go_ret; exact ⟨rfl, rfl⟩)

/-- The two words that mix a schedule's words. -/
def s0S (x : Int) : Int := xr (xr (rr 33554432 128 x) (rr 16384 262144 x)) (x / 8)
def s1S (x : Int) : Int := xr (xr (rr 32768 131072 x) (rr 8192 524288 x)) (x / 1024)
def nextS (a x c y : Int) : Int := (a + s0S x + c + s1S y) % 4294967296
/-- A schedule's word k behind the words W, of a block whose bytes are b. -/
def wordS (b : List Int) (W : List Int) (k : Nat) : Int :=
  if k < 16 then wordF (b.getD (4 * k) 0) (b.getD (4 * k + 1) 0) (b.getD (4 * k + 2) 0) (b.getD (4 * k + 3) 0)
  else nextS (W.getD (k - 16) 0) (W.getD (k - 15) 0) (W.getD (k - 7) 0) (W.getD (k - 2) 0)
def schS (b : List Int) : Nat → List Int
  | 0 => []
  | k + 1 => schS b k ++ [wordS b (schS b k) k]
theorem schS_length (b : List Int) (k : Nat) : (schS b k).length = k := by
  induction k with
  | zero => rfl
  | succ k ih => simp [schS, ih]
end Go.Proofs.YtmoebkdbnldbdaaGreatDoor
/-
  SHA-256: the schedule of a block.
-/
namespace Go.Proofs.YtmoebkdbnldbdaaGreatDoor
open Go.RowKit

/-- The 64 numbers of a slice's bytes lie at ⟨bb, bo⟩. -/
def BytesN (w : World) (bb bo : Nat) (b : List Int) : Prop := ∀ j, j < b.length → w.cell? ⟨bb, bo + j, none⟩ = some (.int .u8 (b.getD j 0))
theorem BytesN.grown {w w' : World} {bb bo : Nat} {b : List Int} {row : Option Nat} (h : BytesN w bb bo b) (hg : w.grownBy w' row) (hr : some bb ≠ row) : BytesN w' bb bo b := fun j hj => hg.cell (h j hj) hr

set_option maxRecDepth 100000 in
set_option maxHeartbeats 1000000 in
theorem schedule_is (w : World) (bb bo cap : Nat) (b : List Int) (hl : b.length = 64) (hb : BytesN w bb bo b) (hcap : 64 ≤ cap) :
    Calls Tryz.prog 85 #[.slice (some ⟨bb, bo, none⟩) 64 cap] w fun e w' => e = .returned (.agg (arrV .u32 (schS b 64))) ∧ w.grownBy w' none := by
  have Hb := Lib.hid hb
  have HL := Lib.hid hl
  clear hb hl
  go_enter Tryz.func85, Tryz.ntmps85
  go_wp2_with fail
  rw [← z64]
  have B1 := Blk.new (w.alloc (.cells (arrV .u32 (List.replicate 64 0)) 107)) 107 (arrV .u32 (List.replicate 64 0))
  have B0 := (Blk.new w 107 (arrV .u32 (List.replicate 64 0))).alloc (.cells (arrV .u32 (List.replicate 64 0)) 107)
  have kk := grown_trans (World.grownBy_alloc w (.cells (arrV .u32 (List.replicate 64 0)) 107) none) (World.grownBy_alloc _ (.cells (arrV .u32 (List.replicate 64 0)) 107) none)
  rw [World.size_alloc] at B1
  generalize (w.alloc (.cells (arrV .u32 (List.replicate 64 0)) 107)).alloc (.cells (arrV .u32 (List.replicate 64 0)) 107) = w1 at *
  go_loopw [11] (fun i wr => ∃ k : Nat, k ≤ 16 ∧ i = .int .i64 (k : Int) ∧ Blk wr (w.heap.size + 1) 107 (arrV .u32 (schS b k ++ List.replicate (64 - k) 0)) ∧ Blk wr w.heap.size 107 (arrV .u32 (List.replicate 64 0)) ∧ w.grownBy wr none) (fun i _ => 16 - (intOf i).toNat)
  case atStart => exact ⟨0, Nat.zero_le _, rfl, B1, B0, kk⟩
  case round =>
    obtain ⟨k, hk, hi, hB, hB0, hK⟩ := hrel
    obtain ⟨I, hI⟩ : ∃ I : Int, I = (k : Int) := ⟨_, rfl⟩
    rw [← hI] at hi
    subst hi
    have hW := schS_length b k
    by_cases hlt : k < 16
    · have d1 : decide (I < 16) = true := by simp; omega
      have c0 := (hK.cell (Hb.out (4 * k) (by rw [HL.out]; omega)) (by simp))
      have c1 := (hK.cell (Hb.out (4 * k + 1) (by rw [HL.out]; omega)) (by simp))
      have c2 := (hK.cell (Hb.out (4 * k + 2) (by rw [HL.out]; omega)) (by simp))
      have c3 := (hK.cell (Hb.out (4 * k + 3) (by rw [HL.out]; omega)) (by simp))
      have hwd : wordS b (schS b k) k = wordF (b.getD (4 * k) 0) (b.getD (4 * k + 1) 0) (b.getD (4 * k + 2) 0) (b.getD (4 * k + 3) 0) := by rw [wordS, if_pos hlt]
      generalize b.getD (4 * k) 0 = x0 at *
      generalize b.getD (4 * k + 1) 0 = x1 at *
      generalize b.getD (4 * k + 2) 0 = x2 at *
      generalize b.getD (4 * k + 3) 0 = x3 at *
      have HWD := Lib.hid hwd
      clear hwd
      obtain ⟨N, hN⟩ : ∃ N : Nat, N = 4 * k := ⟨_, rfl⟩
      have s1 : wrap64 (4 * I) = (N : Int) := by rw [w64 _ ⟨by omega, by omega⟩]; omega
      have s2 : wrap64 ((N : Int) + 4) = ((N + 4 : Nat) : Int) := by rw [w64 _ ⟨by omega, by omega⟩]; omega
      have hN4 : N + 4 ≤ 64 := by omega
      rw [← hN] at c0 c1 c2 c3
      rw [← Nat.add_assoc] at c1 c2 c3
      have HN := Lib.hid hN
      clear hN
      have hx : 0 ≤ I ∧ I < 64 := by omega
      have hkI : I.toNat = k := by omega
      have ck : wr.cell? ⟨w.heap.size + 1, I.toNat, none⟩ = some (.int .u32 0) := by
        rw [hkI, Blk.cell hB k]
        simp [arrV, hW, List.getElem?_append, List.getElem?_replicate]; omega
      have fk := Blk.frozen hB I.toNat
      have HB := Lib.hid hB
      have HB0 := Lib.hid hB0
      have HK := Lib.hid hK
      have HI := Lib.hid (And.intro hI (And.intro hlt hkI))
      have HX := Lib.hid hx
      have HW := Lib.hid hW
      clear hB hB0 hI hlt hkI hk hx hW hK
      go_wp2_with fail
      have hx := HX.out
      go_region
      go_wp2_with fail
      go_roundw
      case rel =>
        obtain ⟨hI, hlt, hkI⟩ := HI.out
        have e : ((I + 1 : Int)) = ((k + 1 : Nat) : Int) := by omega
        refine ⟨k + 1, by omega, by rw [← e], ?_, (HB0.out.far (p := ⟨w.heap.size + 1, I.toNat, none⟩) (by dsimp only; omega) _).drew, grown_drew (grown_far HK.out (p := ⟨w.heap.size + 1, I.toNat, none⟩) (.inl (by dsimp only; omega)) _)⟩
        have h1 := HB.out.set I.toNat (.int .u32 (wordF x0 x1 x2 x3))
        have h2 := arr_push (q := .u32) (W := schS b k) (n := 64) (wordF x0 x1 x2 x3) (by rw [HW.out]; omega)
        rw [HW.out] at h2
        rw [hkI, h2] at h1
        rw [hkI, show schS b (k + 1) = schS b k ++ [wordF x0 x1 x2 x3] by rw [schS, HWD.out]]
        exact h1.drew
      case measure => obtain ⟨hI, hlt, hkI⟩ := HI.out; simp [intOf]; omega
    · have d1 : decide (I < 16) = false := by simp; omega
      obtain rfl : k = 16 := by omega
      have HK := Lib.hid hK
      have HB := Lib.hid hB
      have HB0 := Lib.hid hB0
      clear hlt hk hI hW hK hB hB0
      go_wp2_with fail
      obtain ⟨wo, hwo⟩ : ∃ wo : World, wo = wr := ⟨_, rfl⟩
      rw [← hwo] at HK HB HB0 ⊢
      go_loopw [6] (fun i wr => ∃ k : Nat, 16 ≤ k ∧ k ≤ 64 ∧ i = .int .i64 (k : Int) ∧ Blk wr (w.heap.size + 1) 107 (arrV .u32 (schS b k ++ List.replicate (64 - k) 0)) ∧ Blk wr w.heap.size 107 (arrV .u32 (List.replicate 64 0)) ∧ w.grownBy wr none) (fun i _ => 64 - (intOf i).toNat)
      case atStart => exact ⟨16, Nat.le_refl _, by omega, rfl, HB.out, HB0.out, HK.out⟩
      case round =>
        obtain ⟨k, hk16, hk, hi, hB, hB0, hK⟩ := hrel
        obtain ⟨J, hJ⟩ : ∃ J : Int, J = (k : Int) := ⟨_, rfl⟩
        rw [← hJ] at hi
        subst hi
        have hW := schS_length b k
        by_cases hlt : k < 64
        · have d2 : decide (J < 64) = true := by simp; omega
          have hx : 16 ≤ J ∧ J < 64 := by omega
          have get : ∀ m : Nat, m < k → wr.cell? ⟨w.heap.size + 1, m, none⟩ = some (.int .u32 ((schS b k).getD m 0)) := fun m hm => by
            rw [Blk.cell hB m]
            simp [arrV, hW, List.getElem?_append, hm]
          have g16 := get (J - 16).toNat (by omega)
          have g15 := get (J - 15).toNat (by omega)
          have g7 := get (J - 7).toNat (by omega)
          have g2 := get (J - 2).toNat (by omega)
          have ck : wr.cell? ⟨w.heap.size + 1, J.toNat, none⟩ = some (.int .u32 0) := by
            rw [show J.toNat = k by omega, Blk.cell hB k]
            simp [arrV, hW, List.getElem?_append, List.getElem?_replicate]; omega
          have fk := Blk.frozen hB J.toNat
          have hwd : wordS b (schS b k) k = nextS ((schS b k).getD (J - 16).toNat 0) ((schS b k).getD (J - 15).toNat 0) ((schS b k).getD (J - 7).toNat 0) ((schS b k).getD (J - 2).toNat 0) := by
            rw [wordS, if_neg (by omega), show (J - 16).toNat = k - 16 by omega, show (J - 15).toNat = k - 15 by omega, show (J - 7).toNat = k - 7 by omega, show (J - 2).toNat = k - 2 by omega]
          generalize (schS b k).getD (J - 16).toNat 0 = y16 at *
          generalize (schS b k).getD (J - 15).toNat 0 = y15 at *
          generalize (schS b k).getD (J - 7).toNat 0 = y7 at *
          generalize (schS b k).getD (J - 2).toNat 0 = y2 at *
          have HWD := Lib.hid hwd
          have HB2 := Lib.hid hB
          have HB02 := Lib.hid hB0
          have HK2 := Lib.hid hK
          have HJ := Lib.hid (And.intro hJ (And.intro hlt hk16))
          have HW := Lib.hid hW
          clear hwd get hB hB0 hJ hlt hk hW hK hk16
          go_wp2_with fail
          go_region
          go_wp2_with fail
          refine (rot7 _ _).mono ?_
          rintro e w9 ⟨rfl, rfl⟩
          go_wp2_with fail
          refine (rot18 _ _).mono ?_
          rintro e w9 ⟨rfl, rfl⟩
          go_wp2_with fail
          refine (rot17 _ _).mono ?_
          rintro e w9 ⟨rfl, rfl⟩
          go_wp2_with fail
          refine (rot19 _ _).mono ?_
          rintro e w9 ⟨rfl, rfl⟩
          go_wp2_with fail
          go_region
          go_wp2_with fail
          go_roundw
          case rel =>
            obtain ⟨hJ, hlt, hk16⟩ := HJ.out
            have hkJ : J.toNat = k := by omega
            have e : ((J + 1 : Int)) = ((k + 1 : Nat) : Int) := by omega
            refine ⟨k + 1, by omega, by omega, by rw [← e], ?_, ((HB02.out.drew).far (p := ⟨w.heap.size + 1, J.toNat, none⟩) (by dsimp only; omega) _).drew, grown_drew (grown_far (grown_drew HK2.out) (p := ⟨w.heap.size + 1, J.toNat, none⟩) (.inl (by dsimp only; omega)) _)⟩
            have h1 := HB2.out.set J.toNat (.int .u32 (nextS y16 y15 y7 y2))
            have h2 := arr_push (q := .u32) (W := schS b k) (n := 64) (nextS y16 y15 y7 y2) (by rw [HW.out]; omega)
            rw [HW.out] at h2
            rw [hkJ, h2] at h1
            rw [hkJ, show schS b (k + 1) = schS b k ++ [nextS y16 y15 y7 y2] by rw [schS, HWD.out]]
            exact h1.drew.drew
          case measure => obtain ⟨hJ, hlt, hk16⟩ := HJ.out; simp [intOf]; omega
        · have d2 : decide (J < 64) = false := by simp; omega
          obtain rfl : k = 64 := by omega
          rw [show schS b 64 ++ List.replicate (64 - 64) 0 = schS b 64 by simp] at hB
          have HB2 := Lib.hid hB
          have HB02 := Lib.hid hB0
          have HK2 := Lib.hid hK
          have hcs : (arrV .u32 (schS b 64)).size = 64 := by rw [arr_size, schS_length]
          obtain ⟨cs, hcs'⟩ : ∃ cs, cs = arrV .u32 (schS b 64) := ⟨_, rfl⟩
          rw [← hcs'] at hcs HB2
          have HI64 : (Tryz.prog.info? 107).map (·.size) = some cs.size := by rw [hcs]; kernel_rfl
          have h1c : (cs.all fun x => x.oneCell') = true := by rw [hcs']; simp [Value.oneCell']
          have HC := Lib.hid (And.intro hcs (And.intro HI64 h1c))
          have HCS := Lib.hid hcs'
          clear hlt hk hk16 hJ hB hB0 hK hcs hW HI64 h1c hcs'
          have hld : ∀ {old : Array Value}, Blk wr w.heap.size 107 old → (loadVar 107 ⟨w.heap.size, 0, none⟩).run Tryz.prog (wr.setRow w.heap.size cs) = .ok (.agg cs) (wr.setRow w.heap.size cs) := fun h =>
            run_loadVar_row (wr.setRow w.heap.size cs) w.heap.size 107 107 cs (0, 0) _ (h.row cs) Tryz.underlying107 rfl HC.out.2.1
          go_wp2_with (first
            | (refine wpList_load_row rfl 107 _ rfl (w.heap.size + 1) rfl 107 cs (0, 0) _ HB2.out Tryz.underlying107 rfl HC.out.2.1 ?_)
            | (refine wpList_store_row rfl 107 _ _ rfl w.heap.size cs rfl rfl 107 _ HB02.out HC.out.2.1 (by rw [HC.out.1]; simp) HC.out.2.2 ?_))
          refine bodyPost_ret (results_cell rfl _ _ _ ⟨w.heap.size, 0, none⟩ (.agg cs) rfl (hld HB02.out)) rfl ?_
          exact ⟨by rw [HCS.out], grown_row HK2.out (.inl (Nat.le_refl _)) cs⟩
end Go.Proofs.YtmoebkdbnldbdaaGreatDoor
