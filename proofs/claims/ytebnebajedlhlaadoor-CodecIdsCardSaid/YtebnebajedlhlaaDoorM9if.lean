/-
  Several texts in one: Rf, Rf2.
-/
import Derived.Test.YtebnebajedlhlaaDoorM9ie
import Derived.Laws.BitsAllLaws
/-
  quorateref02's words: each is the program's. The padding as one list; whole blocks.
-/
namespace Go.Proofs.YtebnebajedlhlaaDoor
open Go.RowKit

theorem or_comm32 (a b : Int) : bits BinOp.or IntKind.u32 a b = bits BinOp.or IntKind.u32 b a := by simp only [bits, BitVec.or_comm]

/-- A word of four bytes, as a sum. -/
theorem or_add (a b : Int) (i : Nat) (ha : 0 ≤ a) (ha2 : a < 4294967296) (hb : 0 ≤ b) (hb2 : b < 4294967296) (hm : a.toNat % 2 ^ i = 0) (hl : b.toNat < 2 ^ i) : bits BinOp.or IntKind.u32 a b = a + b := by
  have h := u32_or a b ha ha2 hb hb2
  rw [h, nat_join i _ _ hm hl]
  omega
theorem wordF_sum (b0 b1 b2 b3 : Int) (h0 : 0 ≤ b0 ∧ b0 < 256) (h1 : 0 ≤ b1 ∧ b1 < 256) (h2 : 0 ≤ b2 ∧ b2 < 256) (h3 : 0 ≤ b3 ∧ b3 < 256) : wordF b0 b1 b2 b3 = b0 * 16777216 + b1 * 65536 + b2 * 256 + b3 := by
  unfold wordF
  rw [show b0 % 4294967296 * 16777216 % 4294967296 = b0 * 16777216 by omega, show b1 % 4294967296 * 65536 % 4294967296 = b1 * 65536 by omega, show b2 % 4294967296 * 256 % 4294967296 = b2 * 256 by omega, show b3 % 4294967296 = b3 by omega]
  rw [or_add (b0 * 16777216) (b1 * 65536) 24 (by omega) (by omega) (by omega) (by omega) (by omega) (by omega)]
  rw [or_add (b0 * 16777216 + b1 * 65536) (b2 * 256) 16 (by omega) (by omega) (by omega) (by omega) (by omega) (by omega)]
  rw [or_add (b0 * 16777216 + b1 * 65536 + b2 * 256) b3 8 (by omega) (by omega) (by omega) (by omega) (by omega) (by omega)]

/-- What stands behind the bytes. -/
def padL (n : Nat) : List Int := 128 :: (List.replicate (if 56 < (n + 1) % 64 then 120 - (n + 1) % 64 else 56 - (n + 1) % 64) 0 ++ endB (n * 8))
theorem writeS_cons (s : HS) (x : Int) (y : List Int) : writeS s (x :: y) = writeS (pushS s x) y := rfl
theorem fin_pad (s : HS) : finS s = writeS s (padL s.n) := by
  have hn : (pushS s 128).n = s.n + 1 := pushS_n s 128
  rw [padL, writeS_cons, writeS_append]
  unfold finS padS
  rw [hn]
  by_cases h : 56 < (s.n + 1) % 64
  · rw [if_pos h, if_pos h, writeS_n, hn, List.length_replicate]
    have e : List.replicate (120 - (s.n + 1) % 64) (0 : Int) = List.replicate (64 - (s.n + 1) % 64) 0 ++ List.replicate (56 - (s.n + 1 + (64 - (s.n + 1) % 64)) % 64) 0 := by
      rw [List.replicate_append_replicate]
      congr 1
      omega
    rw [e, endB, writeS_append (pushS s 128)]
  · rw [if_neg h, if_neg h, hn, endB]
theorem padL_length (n : Nat) : (n + (padL n).length) % 64 = 0 := by
  rw [padL, List.length_cons, List.length_append, List.length_replicate]
  have : (endB (n * 8)).length = 8 := rfl
  rw [this]
  split <;> omega

theorem over_all : ∀ (y bs : List Int) (a : Nat), a + y.length = bs.length → over bs a y = bs.take a ++ y
  | [], bs, a, h => by rw [over, List.take_of_length_le (by simp at h; omega), List.append_nil]
  | x :: y, bs, a, h => by
    simp only [List.length_cons] at h
    rw [over, over_all y (bs.set a x) (a + 1) (by rw [List.length_set]; omega)]
    rw [List.take_add_one, List.take_set_of_le (Nat.le_refl a), List.getElem?_set_self (by omega)]
    simp
theorem write_block (s : HS) (y : List Int) (hn : s.n % 64 = 0) (hb : s.bs.length = 64) (hy : y.length = 64) : writeS s y = ⟨mixS s.ws y, y, s.n + 64⟩ := by
  have h := write_chunk y s (by omega) (by intro e; rw [e] at hy; simp at hy)
  rw [if_pos (by omega), hn, hy] at h
  rw [h, over_all y s.bs 0 (by rw [hy, hb])]
  simp
/-- The words behind as many whole blocks. -/
def blocksS (ws : List Int) (b : List Int) : Nat → List Int
  | 0 => ws
  | k + 1 => mixS (blocksS ws b k) ((b.drop (64 * k)).take 64)
theorem write_blocks (b : List Int) : ∀ k, 64 * k ≤ b.length → (writeS startS (b.take (64 * k))).ws = blocksS startS.ws b k ∧ (writeS startS (b.take (64 * k))).bs.length = 64 ∧ (writeS startS (b.take (64 * k))).n = 64 * k
  | 0, _ => ⟨rfl, rfl, rfl⟩
  | k + 1, h => by
    obtain ⟨h1, h2, h3⟩ := write_blocks b k (by omega)
    rw [show 64 * (k + 1) = 64 * k + 64 by omega, List.take_add, writeS_append, write_block _ _ (by rw [h3]; omega) h2 (by rw [List.length_take, List.length_drop]; omega)]
    exact ⟨by rw [h1]; rfl, by rw [List.length_take, List.length_drop]; omega, by dsimp only; rw [h3]⟩
/-- The hash by whole blocks. -/
theorem hash_blocks (x : List Int) : hashS x = sumW (blocksS startS.ws (x ++ padL x.length) ((x.length + (padL x.length).length) / 64)) 8 := by
  have hn : (writeS startS x).n = x.length := by rw [writeS_n]; show 0 + _ = _; omega
  rw [hashS, digS, fin_pad, hn, ← writeS_append]
  have hm := padL_length x.length
  have h := write_blocks (x ++ padL x.length) ((x.length + (padL x.length).length) / 64) (by rw [List.length_append]; omega)
  rw [List.take_of_length_le (by rw [List.length_append]; omega)] at h
  rw [h.1]
end Go.Proofs.YtebnebajedlhlaaDoor
/-
  quorateref02's right; an index into 64 words.
-/

namespace Go.Proofs.YtebnebajedlhlaaDoor
open Go.RowKit

theorem wpList_index64 {w : World} {ops : Array Oper} {rest : List Oper} {o : Oper} {a : Act} {Q : Exit → Act → World → Prop} (hgd : o.guard = none) (x y : Operand) (ho : o.op = .index 135 x y) (cs : Array Value) (I : Int) (v : Value)
    (hx : a.eval x = .agg cs) (hy : a.eval y = .int .i64 I) (hb : 0 ≤ I ∧ I < 64) (hv : cs[I.toNat]? = some v) (h : wpList Tryd.prog ops Q rest (a.put o.dst v) w) : wpList Tryd.prog ops Q (o :: rest) a w := by
  refine wpList_plain hgd fun K hK => ?_
  unfold Oper.wp execOp
  simp only [ho, hx, hy, Sem.run_bind, index64 w hb hv, Result.andThen_ok, Sem.run_pure]
  exact hK _ _ h

end Go.Proofs.YtebnebajedlhlaaDoor
