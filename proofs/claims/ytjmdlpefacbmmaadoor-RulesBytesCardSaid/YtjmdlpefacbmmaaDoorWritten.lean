/-
  The document's own bytes of an op: Fits, Number, written.
-/
import Derived.Test.YtjmdlpefacbmmaaDoorOps2
import Derived.Laws.BitsAllLaws
namespace Go.Proofs.YtjmdlpefacbmmaaDoor
open Go.RowKit

theorem bad_false {m k : Nat} (h1 : 1 ≤ k) (h8 : k ≤ 8) : badNum (m : Int) (k : Int) = !decide (m / 256 ^ k = 0) := by
  unfold badNum
  rw [Int.toNat_natCast, shr_cast]
  have a1 : decide ((k : Int) < 1) = false := by simp; omega
  have a2 : decide ((8 : Int) < (k : Int)) = false := by simp; omega
  have a3 : decide ((m : Int) < 0) = false := by simp
  rw [a1, a2, a3]
  by_cases h : m / 256 ^ k = 0
  · rw [h]; simp
  · have : decide (m / 256 ^ k = 0) = false := by simpa using h
    rw [this]
    simp only [Bool.false_or, Bool.not_false, bne_iff_ne, ne_eq]
    omega

theorem make_b1 (w : World) : (Instr.makeSlice 36 (.int .i64 1) (.int .i64 1)).run Tryd.prog w = .ok (.slice (some ⟨w.heap.size, 0, none⟩) 1 1) (w.alloc (.cells (Array.replicate 1 (Value.int .u8 0)) 5)) := by kernel_rfl
theorem make_b2 (w : World) : (Instr.makeSlice 36 (.int .i64 2) (.int .i64 2)).run Tryd.prog w = .ok (.slice (some ⟨w.heap.size, 0, none⟩) 2 2) (w.alloc (.cells (Array.replicate 2 (Value.int .u8 0)) 5)) := by kernel_rfl
theorem make_b3 (w : World) : (Instr.makeSlice 36 (.int .i64 3) (.int .i64 3)).run Tryd.prog w = .ok (.slice (some ⟨w.heap.size, 0, none⟩) 3 3) (w.alloc (.cells (Array.replicate 3 (Value.int .u8 0)) 5)) := by kernel_rfl
theorem make_b4 (w : World) : (Instr.makeSlice 36 (.int .i64 4) (.int .i64 4)).run Tryd.prog w = .ok (.slice (some ⟨w.heap.size, 0, none⟩) 4 4) (w.alloc (.cells (Array.replicate 4 (Value.int .u8 0)) 5)) := by kernel_rfl
theorem make_b5 (w : World) : (Instr.makeSlice 36 (.int .i64 5) (.int .i64 5)).run Tryd.prog w = .ok (.slice (some ⟨w.heap.size, 0, none⟩) 5 5) (w.alloc (.cells (Array.replicate 5 (Value.int .u8 0)) 5)) := by kernel_rfl
theorem make_b6 (w : World) : (Instr.makeSlice 36 (.int .i64 6) (.int .i64 6)).run Tryd.prog w = .ok (.slice (some ⟨w.heap.size, 0, none⟩) 6 6) (w.alloc (.cells (Array.replicate 6 (Value.int .u8 0)) 5)) := by kernel_rfl
theorem make_b7 (w : World) : (Instr.makeSlice 36 (.int .i64 7) (.int .i64 7)).run Tryd.prog w = .ok (.slice (some ⟨w.heap.size, 0, none⟩) 7 7) (w.alloc (.cells (Array.replicate 7 (Value.int .u8 0)) 5)) := by kernel_rfl
theorem make_b8 (w : World) : (Instr.makeSlice 36 (.int .i64 8) (.int .i64 8)).run Tryd.prog w = .ok (.slice (some ⟨w.heap.size, 0, none⟩) 8 8) (w.alloc (.cells (Array.replicate 8 (Value.int .u8 0)) 5)) := by kernel_rfl
theorem make_bytes (k : Nat) (h1 : 1 ≤ k) (h8 : k ≤ 8) (w : World) : (Instr.makeSlice 36 (.int .i64 (k : Int)) (.int .i64 (k : Int))).run Tryd.prog w = .ok (.slice (some ⟨w.heap.size, 0, none⟩) k k) (w.alloc (.cells (Array.replicate k (Value.int .u8 0)) 5)) := by
  have : k = 1 ∨ k = 2 ∨ k = 3 ∨ k = 4 ∨ k = 5 ∨ k = 6 ∨ k = 7 ∨ k = 8 := by omega
  rcases this with rfl | rfl | rfl | rfl | rfl | rfl | rfl | rfl
  · exact make_b1 w
  · exact make_b2 w
  · exact make_b3 w
  · exact make_b4 w
  · exact make_b5 w
  · exact make_b6 w
  · exact make_b7 w
  · exact make_b8 w

theorem set_mid (j : Nat) (y z : Value) (r : List Value) : ((List.replicate (j + 1) y ++ r).toArray).setIfInBounds j z = (List.replicate j y ++ z :: r).toArray := by
  rw [List.setIfInBounds_toArray, List.replicate_succ', List.append_assoc, List.set_append_right _ _ (by simp)]
  simp

set_option maxHeartbeats 400000 in
theorem refNumber_any (w : World) (m k : Nat) (hmax : (m : Int) ≤ 9223372036854775807) (h1 : 1 ≤ k) (h8 : k ≤ 8) :
    Calls Tryd.prog 38 #[.int .i64 (m : Int), .int .i64 (k : Int)] w fun e w' => e = .returned (.slice (some ⟨w.heap.size, 0, none⟩) k k) ∧ Blk w' w.heap.size 5 (Lib.byteCells (be k m)).toArray ∧ w.grownBy w' none := by
  have hmk := make_bytes k h1 h8
  go_enter Tryd.func38, Tryd.ntmps38
  go_wp2_with fail
  have hb1 := Blk.new w 5 (Array.replicate k (Value.int .u8 0))
  have k1 := (Kept.refl (fun _ => False) w).alloc (.cells (Array.replicate k (Value.int .u8 0)) 5)
  generalize w.alloc (.cells (Array.replicate k (Value.int .u8 0)) 5) = w1 at *
  go_loopw [0, 6] (fun q i wr => ∃ j : Nat, j ≤ k ∧ i = .int .i64 ((j : Int) - 1) ∧ q = .int .i64 ((m / 256 ^ (k - j) : Nat) : Int) ∧ Blk wr w.heap.size 5 (List.replicate j (Value.int .u8 0) ++ Lib.byteCells (be (k - j) m)).toArray ∧ Kept (fun _ => False) w wr) (fun _ i _ => (intOf i + 1).toNat)
  case atStart => exact ⟨k, Nat.le_refl _, rfl, by simp, by simpa [be, Lib.byteCells] using hb1, k1⟩
  case round =>
    obtain ⟨j, hj, hi, rfl, hb, hK⟩ := hrel
    rcases j with _ | j
    · subst hi
      go_wp2_with fail
      go_ret
      exact ⟨rfl, by simpa using hb, hK.none_grown⟩
    · have hi' := hi.trans (show Value.int .i64 (((j + 1 : Nat) : Int) - 1) = .int .i64 (j : Int) by congr 1; omega)
      clear hi
      subst hi'
      have hd : m / 256 ^ (k - j) = m / 256 ^ (k - (j + 1)) / 256 := by
        rw [show k - j = (k - (j + 1)) + 1 by omega, Nat.pow_succ, Nat.div_div_eq_div_mul]
      have hbe : be (k - j) m = UInt8.ofNat (m / 256 ^ (k - (j + 1))) :: be (k - (j + 1)) m := by
        rw [show k - j = (k - (j + 1)) + 1 by omega]; rfl
      have Hd := Lib.hid hd
      have Hbe := Lib.hid hbe
      clear hd hbe
      have hcell := hb.cell j
      have hfr := hb.frozen j
      rw [show (List.replicate (j + 1) (Value.int .u8 0) ++ Lib.byteCells (be (k - (j + 1)) m)).toArray[j]? = some (Value.int .u8 0) by simp [List.getElem?_append]] at hcell
      have Hset := Lib.hid (hb.set j)
      clear hb
      have hqm : m / 256 ^ (k - (j + 1)) ≤ m := Nat.div_le_self _ _
      generalize hq : m / 256 ^ (k - (j + 1)) = q at *
      have Hq := Lib.hid hq
      clear hq
      go_wp2_with fail
      go_roundw
      case rel =>
        refine ⟨j, by omega, rfl, by rw [Hd.out]; rfl, ?_, hK.set (.inr (Nat.le_refl _)) _⟩
        have h := Hset.out (Value.int .u8 ((q : Int) % 256))
        rw [set_mid] at h
        rw [Hbe.out]
        have e : Value.int .u8 ((q : Int) % 256) = Value.int .u8 ((UInt8.ofNat q).toNat : Nat) := by congr 1
        rw [e] at h ⊢
        exact h
      case measure => simp [intOf]

theorem bit01 (n : Int) : bits BinOp.and IntKind.i64 n 1 = 0 ∨ bits BinOp.and IntKind.i64 n 1 = 1 := by
  have h : ((BitVec.ofInt 64 n) &&& (BitVec.ofInt 64 1)).toNat = (BitVec.ofInt 64 n).toNat % 2 := by
    rw [BitVec.toNat_and]
    have : (BitVec.ofInt 64 1).toNat = 1 := by decide
    rw [this, Nat.and_one_is_mod]
  have e : bits BinOp.and IntKind.i64 n 1 = IntKind.i64.wrap (((BitVec.ofInt 64 n) &&& (BitVec.ofInt 64 1)).toNat : Int) := rfl
  rw [e, h, IntKind.wrap_i64]
  omega

theorem own_of_blk {w : World} {g : Nat} {l : List UInt8} {n : Nat} (h : Blk w g 5 (Lib.byteCells l).toArray) (hn : l.length = n) (hm : n ≤ 65535) : w.ownsRow 0 5 1 (.slice (some ⟨g, 0, none⟩) n n) n (Lib.byteCells l) := by
  subst hn
  refine ⟨by simp [Lib.byteCells], .inr ⟨g, l.length, _, rfl, Nat.zero_le _, h, Nat.le_refl _, by unfold maxLen; omega, by simp [Lib.byteCells], ?_⟩⟩
  simp [Lib.byteCells, List.take_of_length_le]

section
variable {P : Program} (w : World)
theorem step_append_bytes {ops : Array Oper} {o : Oper} {a : Act} {K : Act → World → Prop} {Q : Exit → Act → World → Prop} {E : Prop} (hgd : o.guard = none) (s x : Operand) (t : TypeId)
    (ho : o.op = .call { callee := .builtin .append, args := #[s, x], argTypes := #[t, t] })
    (base : Nat) (e : TypeId) (i : TypeInfo) (z : Value) (ht : P.underlying t = some (.slice e)) (hi : P.info? e = some i) (hz : i.zero = some z)
    (hsize : i.size = 1) (hby : i.bytes = 1) (hzs : z.cells.size = 1)
    (v : Value) (n : Nat) (xs : List Value) (hs : a.eval s = v) (hown : w.ownsRow base e 1 v n xs)
    (A : Option Addr) (c : Nat) (l : List UInt8) (hx : a.eval x = .slice A l.length c) (hr : BytesAt w A l) (h63 : n + l.length ≤ 140737488355328) (hbase : base ≤ w.heap.size)
    (h : ∀ A' cap' w', w'.ownsRow base e 1 (.slice A' (n + l.length) cap') (n + l.length) (xs ++ Lib.byteCells l) → w.grownBy w' v.ownBlock → ((Value.slice A' (n + l.length) cap').ownBlock = v.ownBlock ∨ (Value.slice A' (n + l.length) cap').ownBlock = some w.heap.size) → K (a.put o.dst (.slice A' (n + l.length) cap')) w') :
    if Region.wanted o (yielded ops a.tmps) = true then Oper.wp P o a w K Q else E := by
  have hw : Region.wanted o (yielded ops a.tmps) = true := by simp [Region.wanted, hgd]
  rw [if_pos hw]
  exact wp_append_bytes w s x t ho base e i z ht hi hz hsize hby hzs v n xs hs hown A c l hx hr h63 hbase h
end

/-- The document's own answer for an op: the error's number, the bytes. -/
def wErr (o : OpV) : Nat :=
  if o.kind == 1 then (if badNum o.n o.width then 1 else 0)
  else if o.kind == 2 then 0
  else if o.kind == 3 then 0
  else if o.kind == 4 then (if o.most < (o.bytes.length : Int) ∨ 65535 < o.bytes.length then 1 else 0)
  else if o.kind == 5 then (if o.most < (o.bytes.length : Int) ∨ 255 < o.bytes.length then 1 else 0)
  else if o.kind == 6 then 10 else 0
def wBytes (o : OpV) : List UInt8 :=
  if o.kind == 1 then (if badNum o.n o.width then [] else be o.width.toNat o.n.toNat)
  else if o.kind == 2 then [if bits BinOp.and IntKind.i64 o.n 1 == 1 then 1 else 0]
  else if o.kind == 3 then o.bytes
  else if o.kind == 4 then (if o.most < (o.bytes.length : Int) ∨ 65535 < o.bytes.length then [] else be 2 o.bytes.length ++ o.bytes)
  else if o.kind == 5 then (if o.most < (o.bytes.length : Int) ∨ 255 < o.bytes.length then [] else be 1 o.bytes.length ++ o.bytes)
  else []
theorem wOp_eq (o : OpV) (l : List UInt8) : wOp o l = (wErr o, if wErr o = 0 then l ++ wBytes o else l) := by
  unfold wOp wErr wBytes
  repeat' split
  all_goals first | rfl | simp_all

end Go.Proofs.YtjmdlpefacbmmaaDoor
