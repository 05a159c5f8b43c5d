/-
  Several texts in one: Vd, Sh.
-/
import Derived.Test.YtpdfkgmgmndcfaaGreatDoorM20c
import Derived.Deep.MidRow
/-
  Validators as letters, and rows of them.
-/
namespace Go.Proofs.YtpdfkgmgmndcfaaGreatDoor
open Go.RowKit

/-- A validator: the key's bytes, the power. -/
structure Vd where
  key : List Int
  p : Int
def Vd.cells (x : Vd) : List Value := x.key.map (Value.int .u8) ++ [.int .i64 x.p]
abbrev Vd.val (x : Vd) : Value := .agg x.cells.toArray
def VdsAt (w : World) (A : Option Addr) (V : List Vd) : Prop := V ≠ [] → ∃ b off, A = some ⟨b, off, none⟩ ∧ ∀ k (h : k < V.length), w.rangeAt b (off + k * 17) V[k].cells
theorem range_kept {w w' : World} {b o : Nat} {cs : List Value} (h : w.rangeAt b o cs) (hk : w.grownBy w' none) : w'.rangeAt b o cs := fun j v hv => hk.cell (h j v hv) (by simp)
theorem VdsAt.grown {w w' : World} {A : Option Addr} {V : List Vd} (h : VdsAt w A V) (hk : w.grownBy w' none) : VdsAt w' A V := fun hne => by
  obtain ⟨b, off, rfl, hc⟩ := h hne
  exact ⟨b, off, rfl, fun k hk' => range_kept (hc k hk') hk⟩
theorem Vd.cells_length {x : Vd} (h : x.key.length = 16) : x.cells.length = 17 := by simp [Vd.cells, h]
end Go.Proofs.YtpdfkgmgmndcfaaGreatDoor
/-
  SHA-256's words, as the program reckons them; the rotations.
-/

namespace Go.Proofs.YtpdfkgmgmndcfaaGreatDoor
open Go.RowKit

/-! ## Words -/

def rr (p q x : Int) : Int := bits BinOp.or IntKind.u32 (x * p % 4294967296) (x / q)
def wordF (b0 b1 b2 b3 : Int) : Int :=
  bits BinOp.or IntKind.u32 (bits BinOp.or IntKind.u32 (bits BinOp.or IntKind.u32 (b0 % 4294967296 * 16777216 % 4294967296) (b1 % 4294967296 * 65536 % 4294967296)) (b2 % 4294967296 * 256 % 4294967296)) (b3 % 4294967296)
def xr (a b : Int) : Int := bits BinOp.xor IntKind.u32 a b
def an (a b : Int) : Int := bits BinOp.and IntKind.u32 a b
theorem rot2 (w : World) (x : Int) : Calls Tryz.prog 79 #[.int .u32 x, .int .i64 (-2)] w fun e w' => e = .returned (.int .u32 (rr 1073741824 4 x)) ∧ w = w' := by
  have c1 : bits BinOp.and IntKind.u64 (IntKind.u64.wrap (-2)) 31 = 30 := by kernel_rfl
  go_enter Tryz.func79, Tryz.ntmps79
  go_wp2
  all_goals (go_ret; exact ⟨rfl, rfl⟩)
theorem rot6 (w : World) (x : Int) : Calls Tryz.prog 79 #[.int .u32 x, .int .i64 (-6)] w fun e w' => e = .returned (.int .u32 (rr 67108864 64 x)) ∧ w = w' := by
  have c1 : bits BinOp.and IntKind.u64 (IntKind.u64.wrap (-6)) 31 = 26 := by kernel_rfl
  go_enter Tryz.func79, Tryz.ntmps79
  go_wp2
  all_goals (go_ret; exact ⟨rfl, rfl⟩)
theorem rot7 (w : World) (x : Int) : Calls Tryz.prog 79 #[.int .u32 x, .int .i64 (-7)] w fun e w' => e = .returned (.int .u32 (rr 33554432 128 x)) ∧ w = w' := by
  have c1 : bits BinOp.and IntKind.u64 (IntKind.u64.wrap (-7)) 31 = 25 := by kernel_rfl
  go_enter Tryz.func79, Tryz.ntmps79
  go_wp2
  all_goals (go_ret; exact ⟨rfl, rfl⟩)
theorem rot11 (w : World) (x : Int) : Calls Tryz.prog 79 #[.int .u32 x, .int .i64 (-11)] w fun e w' => e = .returned (.int .u32 (rr 2097152 2048 x)) ∧ w = w' := by
  have c1 : bits BinOp.and IntKind.u64 (IntKind.u64.wrap (-11)) 31 = 21 := by kernel_rfl
  go_enter Tryz.func79, Tryz.ntmps79
  go_wp2
  all_goals (go_ret; exact ⟨rfl, rfl⟩)
theorem rot13 (w : World) (x : Int) : Calls Tryz.prog 79 #[.int .u32 x, .int .i64 (-13)] w fun e w' => e = .returned (.int .u32 (rr 524288 8192 x)) ∧ w = w' := by
  have c1 : bits BinOp.and IntKind.u64 (IntKind.u64.wrap (-13)) 31 = 19 := by kernel_rfl
  go_enter Tryz.func79, Tryz.ntmps79
  go_wp2
  all_goals (go_ret; exact ⟨rfl, rfl⟩)
theorem rot17 (w : World) (x : Int) : Calls Tryz.prog 79 #[.int .u32 x, .int .i64 (-17)] w fun e w' => e = .returned (.int .u32 (rr 32768 131072 x)) ∧ w = w' := by
  have c1 : bits BinOp.and IntKind.u64 (IntKind.u64.wrap (-17)) 31 = 15 := by kernel_rfl
  go_enter Tryz.func79, Tryz.ntmps79
  go_wp2
  all_goals (go_ret; exact ⟨rfl, rfl⟩)
theorem rot18 (w : World) (x : Int) : Calls Tryz.prog 79 #[.int .u32 x, .int .i64 (-18)] w fun e w' => e = .returned (.int .u32 (rr 16384 262144 x)) ∧ w = w' := by
  have c1 : bits BinOp.and IntKind.u64 (IntKind.u64.wrap (-18)) 31 = 14 := by kernel_rfl
  go_enter Tryz.func79, Tryz.ntmps79
  go_wp2
  all_goals (go_ret; exact ⟨rfl, rfl⟩)
theorem rot19 (w : World) (x : Int) : Calls Tryz.prog 79 #[.int .u32 x, .int .i64 (-19)] w fun e w' => e = .returned (.int .u32 (rr 8192 524288 x)) ∧ w = w' := by
  have c1 : bits BinOp.and IntKind.u64 (IntKind.u64.wrap (-19)) 31 = 13 := by kernel_rfl
  go_enter Tryz.func79, Tryz.ntmps79
  go_wp2
  all_goals (go_ret; exact ⟨rfl, rfl⟩)
theorem rot22 (w : World) (x : Int) : Calls Tryz.prog 79 #[.int .u32 x, .int .i64 (-22)] w fun e w' => e = .returned (.int .u32 (rr 1024 4194304 x)) ∧ w = w' := by
  have c1 : bits BinOp.and IntKind.u64 (IntKind.u64.wrap (-22)) 31 = 10 := by kernel_rfl
  go_enter Tryz.func79, Tryz.ntmps79
  go_wp2
  all_goals (go_ret; exact ⟨rfl, rfl⟩)
theorem rot25 (w : World) (x : Int) : Calls Tryz.prog 79 #[.int .u32 x, .int .i64 (-25)] w fun e w' => e = .returned (.int .u32 (rr 128 33554432 x)) ∧ w = w' := by
  have c1 : bits BinOp.and IntKind.u64 (IntKind.u64.wrap (-25)) 31 = 7 := by kernel_rfl
  go_enter Tryz.func79, Tryz.ntmps79
  go_wp2
  all_goals (go_ret; exact ⟨rfl, rfl⟩)

/-- The two words that mix a schedule's words. -/
def s0S (x : Int) : Int := xr (xr (rr 33554432 128 x) (rr 16384 262144 x)) (x / 8)
def s1S (x : Int) : Int := xr (xr (rr 32768 131072 x) (rr 8192 524288 x)) (x / 1024)
def nextS (a x c y : Int) : Int := (a + s0S x + c + s1S y) % 4294967296
/-- A schedule's word k behind the words W, of a block whose bytes are b. -/
def wordS (b : List Int) (W : List Int) (k : Nat) : Int :=
  if k < 16 then wordF (b.getD (4 * k) 0) (b.getD (4 * k + 1) 0) (b.getD (4 * k + 2) 0) (b.getD (4 * k + 3) 0)
  else nextS (W.getD (k - 16) 0) (W.getD (k - 15) 0) (W.getD (k - 7) 0) (W.getD (k - 2) 0)
def schS (b : List Int) : Nat → List Int
  | 0 => []
  | k + 1 => schS b k ++ [wordS b (schS b k) k]
theorem schS_length (b : List Int) (k : Nat) : (schS b k).length = k := by
  induction k with
  | zero => rfl
  | succ k ih => simp [schS, ih]
end Go.Proofs.YtpdfkgmgmndcfaaGreatDoor
