/-
  Several texts in one: Attempt, ArgI, Args, Put, Put2, Put3, Ops, Ops2, Written.
-/
import Derived.Test.YthkjlgjbjjjohaaGreatDoorWireA
import Derived.Recover
import Derived.Defers
import Derived.Test.YthkjlgjbjjjohaaGreatDoorArgA
import Derived.Test.YthkjlgjbjjjohaaGreatDoorErrA
import Derived.Laws.BitsAllLaws
/-
  attempt: a call that ends without a panic ends so, and its deferred closure does nothing.
-/
namespace Go.Proofs.YthkjlgjbjjjohaaGreatDoor
open Go.RowKit

end Go.Proofs.YthkjlgjbjjjohaaGreatDoor
/-
  An argument opened: a slice of ints, as a list.
-/

namespace Go.Proofs.YthkjlgjbjjjohaaGreatDoor
open Go.ChangeShapes Go.WideShapes Go.ChangeAt Go.RowKit

section
variable {H : Type} {enc : TypeId × Value → H} {w : World} {base : Nat} {spare : Nat → Bool} {held : Bool} {fuel : Nat} {cs : List Value} {x : DataW H × List MemPlace}

/-- The ints zs lie at A. -/
def IntsAt (w : World) (A : Option Addr) (zs : List Int) : Prop :=
  zs ≠ [] → ∃ ad, A = some ad ∧ ∀ j (h : j < zs.length), w.cell? (ad.add j) = some (.int .i64 zs[j])
theorem open_nums (h : DataW.trod enc Tryz.prog w base spare held fuel 78 cs = some x) :
    ∃ A n c, ∃ l : List Int, cs = [.slice A n c] ∧ l.length = n ∧ n ≤ c ∧ c ≤ maxLen ∧ IntsAt w A l ∧ (∀ z ∈ l, (Lit.int .i64 z).wf = true) ∧ ∀ ad, A = some ad → l ≠ [] → ad.block < w.heap.size := by
  rcases open_ints Tryz.underlying78 Tryz.underlying3 (by kernel_rfl) h with ⟨hcs, _⟩ | ⟨a, len, cap, zs, hcs, _, hl, hm, hz, _, hcell, hwf⟩
  · exact ⟨none, 0, 0, [], hcs, rfl, Nat.le_refl _, by simp [maxLen], fun h => absurd rfl h, (by simp), fun _ e => by cases e⟩
  · have hlz : len ≤ zs.length := by rw [hz]; split <;> omega
    have hc : ∀ j (hj : j < (zs.take len).length), w.cell? (a.add j) = some (.int .i64 (zs.take len)[j]) := by
      intro j hj
      have hj' : j < len := by simp at hj; omega
      rw [hcell j (by omega)]
      simp only [List.getElem_take]
      simp [List.getD, List.getElem?_eq_getElem (show j < zs.length by omega)]
    refine ⟨some a, len, cap, zs.take len, hcs, by simp; omega, hl, hm, fun _ => ⟨a, rfl, hc⟩, fun z hz => hwf z (List.mem_of_mem_take hz), ?_⟩
    intro ad e hne
    injection e with e
    subst e
    have h0 := hc 0 (List.length_pos_iff.2 hne)
    have := World.block_lt_of_cell? w _ h0
    rwa [block_add] at this
theorem IntsAt.get {A : Option Addr} {l : List Int} (h : IntsAt w A l) (hl : l ≠ []) : ∃ b off, A = some ⟨b, off, none⟩ ∧ ∀ j (hj : j < l.length), w.cell? ⟨b, off + j, none⟩ = some (.int .i64 l[j]) := by
  obtain ⟨ad, rfl, hc⟩ := h hl
  obtain ⟨b, off, rfl⟩ := addr_form (hc 0 (List.length_pos_iff.2 hl)) rfl
  exact ⟨b, off, rfl, fun j hj => by rw [← Go.WideShapes.add_plain]; exact hc j hj⟩
theorem IntsAt.keep {w' : World} {A : Option Addr} {l : List Int} (h : IntsAt w A l) (hk : ∀ ad : Addr, A = some ad → w.cell? (ad.add 0) ≠ none → ∀ i, w'.cell? (ad.add i) = w.cell? (ad.add i)) : IntsAt w' A l := fun hl => by
  obtain ⟨ad, rfl, hc⟩ := h hl
  refine ⟨ad, rfl, fun j hj => ?_⟩
  have h0 : 0 < l.length := by omega
  rw [hk ad rfl (by rw [hc 0 h0]; simp) j, hc j hj]
theorem IntsAt.kept {F : Nat → Prop} {w' : World} {A : Option Addr} {l : List Int} (h : IntsAt w A l) (hk : Kept F w w') (hA : ∀ ad, A = some ad → ¬ F ad.block) : IntsAt w' A l :=
  h.keep fun ad e h0 i => World.cell?_of_block (hk.block _ (by
    rw [block_add]
    obtain ⟨v, hv⟩ := Option.ne_none_iff_exists'.1 h0
    have := World.block_lt_of_cell? w _ hv
    rwa [block_add] at this) (by rw [block_add]; exact hA ad e))
set_option maxRecDepth 100000 in
theorem arg_nums {v : Value} {d : DataW H} {p : List MemPlace} {b0 : Nat} (hv : Value.okWide Tryz.prog w .any b0 78 v) (h : DataW.Trod enc Tryz.prog w base spare held 78 v d p) :
    ∃ A n c, ∃ l : List Int, v = .slice A n c ∧ l.length = n ∧ n ≤ c ∧ IntsAt w A l ∧ ∀ z ∈ l, (Lit.int .i64 z).wf = true := by
  obtain ⟨a0, len, cap, rfl⟩ := okWide_slice Tryz.underlying78 hv
  obtain ⟨fuel, hf⟩ := h
  obtain ⟨A, n, c, l, hcs, hn, hc, _, hb, hw, _⟩ := open_nums hf
  have e : Value.slice a0 len cap = .slice A n c := (List.cons.inj (show [Value.slice a0 len cap] = [Value.slice A n c] from hcs)).1
  exact ⟨A, n, c, l, e, hn, hc, hb, hw⟩

end
end Go.Proofs.YthkjlgjbjjjohaaGreatDoor
/-
  Arguments opened: a slice of bytes, of ints, as lists.
-/
/-
  The contracts of package wire's Writer with an error; Put at bytes.
-/
namespace Go.Proofs.YthkjlgjbjjjohaaGreatDoor
open Go.RowKit

theorem Kept.follow {F G : Nat → Prop} {a b c : World} (h : Kept F a b) (k : Kept G b c) (hF : ∀ k, k < a.heap.size → G k → F k) : Kept F a c :=
  ⟨k.os.trans h.os, k.tape.trans h.tape, k.output.trans h.output, Nat.le_trans h.size k.size, fun i hi hn => (k.block i (Nat.lt_of_lt_of_le hi h.size) (fun hg => hn (hF i hi hg))).trans (h.block i hi hn)⟩
theorem Kept.none_grown {w w' : World} (h : Kept (fun _ => False) w w') : w.grownBy w' none := h.grownNone fun _ _ h => h

set_option maxHeartbeats 400000 in
/-- The Writer has an error: no number is written. -/
theorem number_err (w : World) (F : Nat → Prop) (B g : Nat) (t : TypeId) (v : Value) (l : List UInt8) (a : Addr) (n width : Int) (hw : WrIs w F g (.iface t v) l) (he : ErrAt w B 0 a) :
    Calls Tryz.prog 83 #[.pointer (some ⟨g, 0, none⟩), .int .i64 n, .int .i64 width] w fun e w' => e = .returned (.tuple #[]) ∧ w.grownBy w' none := by
  by_cases hbad : badNum n width = true
  · have hw' := hw
    obtain ⟨hBg, bA, bc, hb, hown, hF⟩ := hw'
    have hr := he.1
    rcases badNum_cases hbad with a1 | ⟨a1, a2⟩ | ⟨a1, a2, a3⟩ | ⟨k, m, rfl, rfl, a1, a2, a3, a4⟩
    all_goals
      clear hbad
      go_enter Tryz.func83, Tryz.ntmps83
      go_wp2_with fail
      go_region_with (go_at_call 112; refine (fail_old _ g 193 t v (.slice bA l.length bc) _ ?_).mono ?_; exact hb.drew; rintro e w1 ⟨rfl, rfl⟩)
      all_goals
        go_wp2
        first | go_end0 | refine bodyPost_ret (results_none rfl _ _ _) rfl ?_
        exact ⟨rfl, rfl, rfl, rfl, Nat.le_refl _, fun _ _ _ => rfl⟩
  · have hf : badNum n width = false := by simpa using hbad
    have h1 : 1 ≤ width ∧ width ≤ 8 ∧ 0 ≤ n ∧ ((n / 2 ^ (8 * width.toNat)) != 0) = false := by
      unfold badNum at hf
      simp only [Bool.or_eq_false_iff, decide_eq_false_iff_not] at hf
      exact ⟨by omega, by omega, by omega, hf.2⟩
    obtain ⟨k, rfl⟩ := Int.eq_ofNat_of_zero_le (show 0 ≤ width by omega)
    obtain ⟨m, rfl⟩ := Int.eq_ofNat_of_zero_le h1.2.2.1
    have a1 : decide ((k : Int) < 1) = false := by simp; omega
    have a2 : decide ((8 : Int) < (k : Int)) = false := by simp; omega
    have a3 : decide ((m : Int) < 0) = false := by simp
    have a4 : (((m : Int) / 2 ^ (8 * k)) != 0) = false := by simpa using h1.2.2.2
    have h8 : k ≤ 8 := by omega
    clear hbad hf h1
    go_enter Tryz.func83, Tryz.ntmps83
    go_wp2_with fail
    go_loopw [6] (fun i wr => ∃ j : Nat, j ≤ k ∧ i = .int .i64 ((j : Int) - 1) ∧ w.grownBy wr none) (fun i _ => (intOf i + 1).toNat)
    case atStart => exact ⟨k, Nat.le_refl _, rfl, World.grownBy.refl _ _⟩
    case round =>
      obtain ⟨j, hj, hi, hg⟩ := hrel
      rcases j with _ | j
      · subst hi
        go_wp2_with fail
        go_end0
        exact ⟨rfl, hg⟩
      · have hi' := hi.trans (show Value.int .i64 (((j + 1 : Nat) : Int) - 1) = .int .i64 (j : Int) by congr 1; omega)
        clear hi
        subst hi'
        have hwr := (hw.grown hg)
        have Hwr := Lib.hid hwr
        clear hwr
        go_wp2_with fail
        refine (write_err _ F g t v l _ 1 _ (Hwr.out.alloc _)).mono ?_
        rintro e w1 ⟨rfl, rfl⟩
        go_wp2_with fail
        go_roundw
        case rel => exact ⟨j, by omega, by go_num, grown_trans hg (World.grownBy_alloc _ _ _)⟩
        case measure => simp [intOf]

theorem be_one (b : UInt8) : be 1 b.toNat = [b] := by simp [be]
end Go.Proofs.YthkjlgjbjjjohaaGreatDoor
/-
  Put at bytes: its closure, and it.
-/

namespace Go.Proofs.YthkjlgjbjjjohaaGreatDoor
open Go.RowKit

theorem BytesAt.lt {w : World} {A : Option Addr} {l : List UInt8} (h : BytesAt w A l) : ∀ ad, A = some ad → l ≠ [] → ad.block < w.heap.size := by
  intro ad e hne
  obtain ⟨ad', e', hc⟩ := h hne
  rw [e] at e'
  injection e' with e'
  subst e'
  have := World.block_lt_of_cell? w _ (hc 0 (List.length_pos_iff.2 hne))
  rwa [block_add] at this
section
variable (w : World) (g m c : Nat) (A : Option Addr)
end

end Go.Proofs.YthkjlgjbjjjohaaGreatDoor
/-
  Put at bytes: a list that is too long; a Writer with an error.
-/

namespace Go.Proofs.YthkjlgjbjjjohaaGreatDoor
open Go.RowKit

theorem long_cases {m : Nat} {most : Int} (h : most < (m : Int) ∨ 255 < m) : decide (most < (m : Int)) = true ∨ (decide (most < (m : Int)) = false ∧ decide ((255 : Int) < (m : Int)) = true) := by
  by_cases h1 : most < (m : Int)
  · exact .inl (by simpa using h1)
  · exact .inr ⟨by simpa using h1, by simp; omega⟩

end Go.Proofs.YthkjlgjbjjjohaaGreatDoor
/-
  The Writer's other calls with an error; one op of a script, written.
-/
namespace Go.Proofs.YthkjlgjbjjjohaaGreatDoor
open Go.RowKit

theorem blong_cases {m : Nat} {most : Int} (h : most < (m : Int) ∨ 65535 < m) : decide (most < (m : Int)) = true ∨ (decide (most < (m : Int)) = false ∧ decide ((65535 : Int) < (m : Int)) = true) := by
  by_cases h1 : most < (m : Int)
  · exact .inl (by simpa using h1)
  · exact .inr ⟨by simpa using h1, by simp; omega⟩

/-! ### one op -/
/-- An op of a script, with the bytes that it holds. -/
structure OpV where
  kind : Int
  n : Int
  width : Int
  most : Int
  bytes : List UInt8

/-- The op as a value: its bytes lie at A. -/
def opVal (o : OpV) (A : Option Addr) (c : Nat) : Value := .agg #[.int .i64 o.kind, .int .i64 o.n, .int .i64 o.width, .int .i64 o.most, .slice A o.bytes.length c]

end Go.Proofs.YthkjlgjbjjjohaaGreatDoor
/-
  One op of a script, written by a Writer without an error.
-/
namespace Go.Proofs.YthkjlgjbjjjohaaGreatDoor
open Go.RowKit

theorem goodNum {n width : Int} (h : badNum n width = false) : ∃ m k : Nat, n = (m : Int) ∧ width = (k : Int) ∧ 1 ≤ k ∧ k ≤ 8 ∧ m < 256 ^ k := by
  unfold badNum at h
  simp only [Bool.or_eq_false_iff, decide_eq_false_iff_not] at h
  obtain ⟨⟨⟨h1, h2⟩, h3⟩, h4⟩ := h
  obtain ⟨k, rfl⟩ := Int.eq_ofNat_of_zero_le (show 0 ≤ width by omega)
  obtain ⟨m, rfl⟩ := Int.eq_ofNat_of_zero_le (show 0 ≤ n by omega)
  refine ⟨m, k, rfl, rfl, by omega, by omega, ?_⟩
  rw [Int.toNat_natCast, shr_cast] at h4
  have h5 : m / 256 ^ k = 0 := by
    simp only [bne_eq_false_iff_eq] at h4
    omega
  exact (Nat.div_eq_zero_iff_lt (Nat.pow_pos (by omega))).1 h5

/-- What an op leaves of a Writer without an error that holds l: the error's number, the bytes. -/
def wOp (o : OpV) (l : List UInt8) : Nat × List UInt8 :=
  if o.kind == 1 then (if badNum o.n o.width then (1, l) else (0, l ++ be o.width.toNat o.n.toNat))
  else if o.kind == 2 then (0, l ++ [if bits BinOp.and IntKind.i64 o.n 1 == 1 then 1 else 0])
  else if o.kind == 3 then (0, l ++ o.bytes)
  else if o.kind == 4 then (if o.most < (o.bytes.length : Int) ∨ 65535 < o.bytes.length then (1, l) else (0, l ++ (be 2 o.bytes.length ++ o.bytes)))
  else if o.kind == 5 then (if o.most < (o.bytes.length : Int) ∨ 255 < o.bytes.length then (1, l) else (0, l ++ (be 1 o.bytes.length ++ o.bytes)))
  else if o.kind == 6 then (10, l) else (0, l)

end Go.Proofs.YthkjlgjbjjjohaaGreatDoor
/-
  The document's own bytes of an op: Fits, Number, written.
-/
namespace Go.Proofs.YthkjlgjbjjjohaaGreatDoor
open Go.RowKit

theorem bad_false {m k : Nat} (h1 : 1 ≤ k) (h8 : k ≤ 8) : badNum (m : Int) (k : Int) = !decide (m / 256 ^ k = 0) := by
  unfold badNum
  rw [Int.toNat_natCast, shr_cast]
  have a1 : decide ((k : Int) < 1) = false := by simp; omega
  have a2 : decide ((8 : Int) < (k : Int)) = false := by simp; omega
  have a3 : decide ((m : Int) < 0) = false := by simp
  rw [a1, a2, a3]
  by_cases h : m / 256 ^ k = 0
  · rw [h]; simp
  · have : decide (m / 256 ^ k = 0) = false := by simpa using h
    rw [this]
    simp only [Bool.false_or, Bool.not_false, bne_iff_ne, ne_eq]
    omega

theorem make_b1 (w : World) : (Instr.makeSlice 49 (.int .i64 1) (.int .i64 1)).run Tryz.prog w = .ok (.slice (some ⟨w.heap.size, 0, none⟩) 1 1) (w.alloc (.cells (Array.replicate 1 (Value.int .u8 0)) 5)) := by kernel_rfl
theorem make_b2 (w : World) : (Instr.makeSlice 49 (.int .i64 2) (.int .i64 2)).run Tryz.prog w = .ok (.slice (some ⟨w.heap.size, 0, none⟩) 2 2) (w.alloc (.cells (Array.replicate 2 (Value.int .u8 0)) 5)) := by kernel_rfl
theorem make_b3 (w : World) : (Instr.makeSlice 49 (.int .i64 3) (.int .i64 3)).run Tryz.prog w = .ok (.slice (some ⟨w.heap.size, 0, none⟩) 3 3) (w.alloc (.cells (Array.replicate 3 (Value.int .u8 0)) 5)) := by kernel_rfl
theorem make_b4 (w : World) : (Instr.makeSlice 49 (.int .i64 4) (.int .i64 4)).run Tryz.prog w = .ok (.slice (some ⟨w.heap.size, 0, none⟩) 4 4) (w.alloc (.cells (Array.replicate 4 (Value.int .u8 0)) 5)) := by kernel_rfl
theorem make_b5 (w : World) : (Instr.makeSlice 49 (.int .i64 5) (.int .i64 5)).run Tryz.prog w = .ok (.slice (some ⟨w.heap.size, 0, none⟩) 5 5) (w.alloc (.cells (Array.replicate 5 (Value.int .u8 0)) 5)) := by kernel_rfl
theorem make_b6 (w : World) : (Instr.makeSlice 49 (.int .i64 6) (.int .i64 6)).run Tryz.prog w = .ok (.slice (some ⟨w.heap.size, 0, none⟩) 6 6) (w.alloc (.cells (Array.replicate 6 (Value.int .u8 0)) 5)) := by kernel_rfl
theorem make_b7 (w : World) : (Instr.makeSlice 49 (.int .i64 7) (.int .i64 7)).run Tryz.prog w = .ok (.slice (some ⟨w.heap.size, 0, none⟩) 7 7) (w.alloc (.cells (Array.replicate 7 (Value.int .u8 0)) 5)) := by kernel_rfl
theorem make_b8 (w : World) : (Instr.makeSlice 49 (.int .i64 8) (.int .i64 8)).run Tryz.prog w = .ok (.slice (some ⟨w.heap.size, 0, none⟩) 8 8) (w.alloc (.cells (Array.replicate 8 (Value.int .u8 0)) 5)) := by kernel_rfl
theorem make_bytesR13 (k : Nat) (h1 : 1 ≤ k) (h8 : k ≤ 8) (w : World) : (Instr.makeSlice 49 (.int .i64 (k : Int)) (.int .i64 (k : Int))).run Tryz.prog w = .ok (.slice (some ⟨w.heap.size, 0, none⟩) k k) (w.alloc (.cells (Array.replicate k (Value.int .u8 0)) 5)) := by
  have : k = 1 ∨ k = 2 ∨ k = 3 ∨ k = 4 ∨ k = 5 ∨ k = 6 ∨ k = 7 ∨ k = 8 := by omega
  rcases this with rfl | rfl | rfl | rfl | rfl | rfl | rfl | rfl
  · exact make_b1 w
  · exact make_b2 w
  · exact make_b3 w
  · exact make_b4 w
  · exact make_b5 w
  · exact make_b6 w
  · exact make_b7 w
  · exact make_b8 w

theorem set_mid (j : Nat) (y z : Value) (r : List Value) : ((List.replicate (j + 1) y ++ r).toArray).setIfInBounds j z = (List.replicate j y ++ z :: r).toArray := by
  rw [List.setIfInBounds_toArray, List.replicate_succ', List.append_assoc, List.set_append_right _ _ (by simp)]
  simp

theorem bit01 (n : Int) : bits BinOp.and IntKind.i64 n 1 = 0 ∨ bits BinOp.and IntKind.i64 n 1 = 1 := by
  have h : ((BitVec.ofInt 64 n) &&& (BitVec.ofInt 64 1)).toNat = (BitVec.ofInt 64 n).toNat % 2 := by
    rw [BitVec.toNat_and]
    have : (BitVec.ofInt 64 1).toNat = 1 := by decide
    rw [this, Nat.and_one_is_mod]
  have e : bits BinOp.and IntKind.i64 n 1 = IntKind.i64.wrap (((BitVec.ofInt 64 n) &&& (BitVec.ofInt 64 1)).toNat : Int) := rfl
  rw [e, h, IntKind.wrap_i64]
  omega

theorem own_of_blk {w : World} {g : Nat} {l : List UInt8} {n : Nat} (h : Blk w g 5 (Lib.byteCells l).toArray) (hn : l.length = n) (hm : n ≤ 65535) : w.ownsRow 0 5 1 (.slice (some ⟨g, 0, none⟩) n n) n (Lib.byteCells l) := by
  subst hn
  refine ⟨by simp [Lib.byteCells], .inr ⟨g, l.length, _, rfl, Nat.zero_le _, h, Nat.le_refl _, by unfold maxLen; omega, by simp [Lib.byteCells], ?_⟩⟩
  simp [Lib.byteCells, List.take_of_length_le]

section
variable {P : Program} (w : World)
theorem step_append_bytes {ops : Array Oper} {o : Oper} {a : Act} {K : Act → World → Prop} {Q : Exit → Act → World → Prop} {E : Prop} (hgd : o.guard = none) (s x : Operand) (t : TypeId)
    (ho : o.op = .call { callee := .builtin .append, args := #[s, x], argTypes := #[t, t] })
    (base : Nat) (e : TypeId) (i : TypeInfo) (z : Value) (ht : P.underlying t = some (.slice e)) (hi : P.info? e = some i) (hz : i.zero = some z)
    (hsize : i.size = 1) (hby : i.bytes = 1) (hzs : z.cells.size = 1)
    (v : Value) (n : Nat) (xs : List Value) (hs : a.eval s = v) (hown : w.ownsRow base e 1 v n xs)
    (A : Option Addr) (c : Nat) (l : List UInt8) (hx : a.eval x = .slice A l.length c) (hr : BytesAt w A l) (h63 : n + l.length ≤ 140737488355328) (hbase : base ≤ w.heap.size)
    (h : ∀ A' cap' w', w'.ownsRow base e 1 (.slice A' (n + l.length) cap') (n + l.length) (xs ++ Lib.byteCells l) → w.grownBy w' v.ownBlock → ((Value.slice A' (n + l.length) cap').ownBlock = v.ownBlock ∨ (Value.slice A' (n + l.length) cap').ownBlock = some w.heap.size) → K (a.put o.dst (.slice A' (n + l.length) cap')) w') :
    if Region.wanted o (yielded ops a.tmps) = true then Oper.wp P o a w K Q else E := by
  have hw : Region.wanted o (yielded ops a.tmps) = true := by simp [Region.wanted, hgd]
  rw [if_pos hw]
  exact wp_append_bytes w s x t ho base e i z ht hi hz hsize hby hzs v n xs hs hown A c l hx hr h63 hbase h
end

/-- The document's own answer for an op: the error's number, the bytes. -/
def wErr (o : OpV) : Nat :=
  if o.kind == 1 then (if badNum o.n o.width then 1 else 0)
  else if o.kind == 2 then 0
  else if o.kind == 3 then 0
  else if o.kind == 4 then (if o.most < (o.bytes.length : Int) ∨ 65535 < o.bytes.length then 1 else 0)
  else if o.kind == 5 then (if o.most < (o.bytes.length : Int) ∨ 255 < o.bytes.length then 1 else 0)
  else if o.kind == 6 then 10 else 0
def wBytes (o : OpV) : List UInt8 :=
  if o.kind == 1 then (if badNum o.n o.width then [] else be o.width.toNat o.n.toNat)
  else if o.kind == 2 then [if bits BinOp.and IntKind.i64 o.n 1 == 1 then 1 else 0]
  else if o.kind == 3 then o.bytes
  else if o.kind == 4 then (if o.most < (o.bytes.length : Int) ∨ 65535 < o.bytes.length then [] else be 2 o.bytes.length ++ o.bytes)
  else if o.kind == 5 then (if o.most < (o.bytes.length : Int) ∨ 255 < o.bytes.length then [] else be 1 o.bytes.length ++ o.bytes)
  else []
theorem wOp_eq (o : OpV) (l : List UInt8) : wOp o l = (wErr o, if wErr o = 0 then l ++ wBytes o else l) := by
  unfold wOp wErr wBytes
  repeat' split
  all_goals first | rfl | simp_all

end Go.Proofs.YthkjlgjbjjjohaaGreatDoor
