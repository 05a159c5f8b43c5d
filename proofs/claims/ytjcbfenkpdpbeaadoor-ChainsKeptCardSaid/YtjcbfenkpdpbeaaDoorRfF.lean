/-
  quorateref02.Framed.
-/
import Derived.Test.YtjcbfenkpdpbeaaDoorRfU
import Derived.Test.YtjcbfenkpdpbeaaDoorShOf
import Derived.Test.YtjcbfenkpdpbeaaDoorShArg
namespace Go.Proofs.YtjcbfenkpdpbeaaDoor
open Go.RowKit

theorem xsOf_append (a b : ByteArray) : xsOf (a ++ b) = xsOf a ++ xsOf b := by simp [xsOf, ByteArray.data_append]
theorem xsOf_mk (l : List UInt8) : xsOf ⟨l.toArray⟩ = intsB l := by simp [xsOf, intsB]
theorem xsOf_ints (s : ByteArray) : xsOf s = intsB s.data.toList := rfl
theorem ints_str (L : List Int) (h : ∀ z ∈ L, 0 ≤ z ∧ z < 256) : ∃ s : ByteArray, xsOf s = L := by
  refine ⟨⟨(L.map fun z => UInt8.ofNat z.toNat).toArray⟩, ?_⟩
  rw [xsOf_mk, intsB, List.map_map]
  conv => rhs; rw [← List.map_id L]
  apply List.map_congr_left
  intro z hz
  have := h z hz
  simp
  omega
theorem intsB_inj : ∀ {a b : List UInt8}, intsB a = intsB b → a = b
  | [], [], _ => rfl
  | [], _ :: _, h => by simp [intsB] at h
  | _ :: _, [], h => by simp [intsB] at h
  | x :: a, y :: b, h => by
    simp only [intsB, List.map_cons, List.cons.injEq] at h
    rw [intsB_inj (a := a) (b := b) h.2, UInt8.toNat_inj.1 (by omega : x.toNat = y.toNat)]
theorem xsOf_inj {a b : ByteArray} (h : xsOf a = xsOf b) : a = b := by
  have := intsB_inj h
  apply ByteArray.ext
  exact Array.toList_inj.1 this
/-- A row of bytes as a string. -/
theorem str_run (w : World) (A : Option Addr) (n cap : Nat) (s : ByteArray) (hn : s.size = n) (hx : BytesI w A (xsOf s)) : Sem.run Tryd.prog (convert 56 9 (.slice A n cap)) w = .ok (.string s) w := by
  subst hn
  cases A with
  | none =>
    have h0 : s.size = 0 := by
      by_cases h : xsOf s = []
      · rw [← xsOf_length, h]; rfl
      · obtain ⟨ad, e, _⟩ := hx h; cases e
    have hs : s = ByteArray.empty := by
      apply xsOf_inj
      have h1 : (xsOf s).length = 0 := by rw [xsOf_length, h0]
      rw [List.eq_nil_of_length_eq_zero h1]; rfl
    rw [run_convert_bytes_string w 56 9 5 none s.size cap Tryd.underlying56 Tryd.underlying5 Tryd.underlying9, hs]
    simp [Conv.bytesToString]
  | some ad =>
    have h := run_convert_bytes_back w 56 9 5 ad cap s.data.toList Tryd.underlying56 Tryd.underlying5 Tryd.underlying9 (fun j hj => by
      have hne : xsOf s ≠ [] := by intro e; have := congrArg List.length e; rw [xsOf_length] at this; have h2 : s.data.toList.length = s.size := rfl; simp only [List.length_nil] at this; omega
      obtain ⟨ad', e, hc⟩ := hx hne
      obtain rfl := Option.some.inj e
      have h2 : s.data.toList.length = s.size := rfl
      rw [hc j (by rw [xsOf_length]; omega)]
      simp [xsOf, List.getD, List.getElem?_eq_getElem (show j < s.data.size by simpa using hj)])
    have h2 : s.data.toList.length = s.size := rfl
    rw [h2] at h
    simpa using h
/-- The text whose hash a short hash is. -/
def framedL (a0 : Int) (ps : List (List Int)) : List Int := a0 % 256 :: ps.flatMap fun p => wordB ((p.length : Int) % 4294967296) ++ p
theorem write_parts : ∀ (ps : List (List Int)) (s : HS), writeS s (ps.flatMap fun p => wordB ((p.length : Int) % 4294967296) ++ p) = ps.foldl partS s
  | [], s => rfl
  | p :: ps, s => by
    rw [List.flatMap_cons, writeS_append, writeS_append, write_parts ps]; rfl
theorem of_hash (a0 : Int) (ps : List (List Int)) : ofS a0 ps = (hashS (framedL a0 ps)).take 16 := by
  rw [ofS, hashS, framedL, framedS, ← write_parts, ← writeS_append]; rfl
theorem framedL_succ (a0 : Int) (ps : List (List Int)) (k : Nat) (h : k < ps.length) : framedL a0 (ps.take (k + 1)) = framedL a0 (ps.take k) ++ (wordB (((ps.getD k []).length : Int) % 4294967296) ++ ps.getD k []) := by
  rw [take_push' ps k [] h]
  simp [framedL]
theorem framedL_le (a0 : Int) (B : Nat) : ∀ ps : List (List Int), (∀ p ∈ ps, p.length ≤ B) → (framedL a0 ps).length ≤ 1 + ps.length * (B + 4)
  | [], _ => by simp [framedL]
  | p :: ps, h => by
    have ih := framedL_le a0 B ps (fun q hq => h q (by simp [hq]))
    have h1 := h p (by simp)
    have h4 : (wordB ((p.length : Int) % 4294967296)).length = 4 := rfl
    simp only [framedL, List.length_cons, List.flatMap_cons, List.length_append, Nat.succ_mul] at ih ⊢
    omega
/-- The texts lie at A. -/
def TextsI (w : World) (A : Option Addr) (ts : List ByteArray) : Prop := ∀ j, j < ts.length → ∃ ad, A = some ad ∧ w.cell? (ad.add j) = some (.string (ts.getD j ByteArray.empty))
theorem TextsI.grown {w w' : World} {A : Option Addr} {ts : List ByteArray} (h : TextsI w A ts) (hg : w.grownBy w' none) : TextsI w' A ts := fun j hj => by
  obtain ⟨ad, e, h1⟩ := h j hj
  exact ⟨ad, e, hg.cell h1 (by simp)⟩
theorem cat_run (w : World) (a b : ByteArray) (ha : a.size ≤ 1000000) (hb : b.size ≤ 1000000) : (Op.stringOp .add a b).run Tryd.prog w = .ok (.string (a ++ b)) w := run_string_add_sum w a b (by omega)

set_option maxRecDepth 100000 in
set_option maxHeartbeats 2000000 in
theorem framed_is (w : World) (a0 : Int) (A : Option Addr) (n c : Nat) (ts : List ByteArray) (hn : ts.length = n) (hP : TextsI w A ts) (hn64 : n ≤ 64) (hps : ∀ t ∈ ts, t.size ≤ 2000) :
    Calls Tryd.prog 44 #[.int .i64 a0, .slice A n c] w fun e w' => ∃ s, e = .returned (.string s) ∧ xsOf s = framedL a0 (ts.map xsOf) ∧ w.grownBy w' none := by
  obtain ⟨S0, hS0⟩ := ints_str [a0 % 256] (fun z hz => by simp at hz; omega)
  have hcv : Sem.run Tryd.prog (convert 56 9 (.slice (some ⟨w.heap.size, 0, none⟩) 1 1)) (w.alloc (.cells #[.int .u8 (a0 % 256)] 5)) = .ok (.string S0) (w.alloc (.cells #[.int .u8 (a0 % 256)] 5)) :=
    str_run _ _ 1 1 S0 (by rw [← xsOf_length, hS0]; rfl) (by rw [hS0]; exact BytesI.blk (Blk.new w 5 (arrV .u8 [a0 % 256])) (fun j hj => by simp at hj; subst hj; simp))
  have HX := Lib.hid (And.intro hn (And.intro hP (And.intro hn64 hps)))
  have HS0 := Lib.hid hS0
  clear hn hP hn64 hps hS0
  go_enter Tryd.func44, Tryd.ntmps44
  go_wp2_with fail
  clear hcv
  have HG0 := Lib.hid (World.grownBy_alloc w (.cells #[.int .u8 (a0 % 256)] 5) none)
  go_loopw [5, 15] (fun s i wr => ∃ (k : Nat) (S : ByteArray), k ≤ n ∧ i = .int .i64 (k : Int) ∧ s = .string S ∧ xsOf S = framedL a0 ((ts.map xsOf).take k) ∧ w.grownBy wr none) (fun _ i _ => n - (intOf i).toNat)
  case atStart => exact ⟨0, S0, by omega, rfl, rfl, HS0.out, HG0.out⟩
  case round =>
    obtain ⟨k, S, hk, hi, hs, hS, hK⟩ := hrel
    obtain ⟨I, hI⟩ : ∃ I : Int, I = (k : Int) := ⟨_, rfl⟩
    rw [← hI] at hi
    subst hi hs
    by_cases hlt : k < n
    · have d1 : decide (I < (n : Int)) = true := by simp; omega
      obtain ⟨hn, hP, hn64, hps⟩ := HX.out
      obtain ⟨ad, rfl, hcell⟩ := hP k (by omega)
      obtain ⟨p, hp⟩ : ∃ p, p = ts.getD k ByteArray.empty := ⟨_, rfl⟩
      rw [← hp] at hcell
      have hpm : p.size ≤ 2000 := by
        have : p ∈ ts := by rw [hp, List.getD, List.getElem?_eq_getElem (by omega : k < ts.length)]; exact List.getElem_mem _
        exact hps p this
      have hkI : I.toNat = k := by omega
      have hcy : wr.cell? (ad.add I.toNat) = some (.string p) := by rw [hkI]; exact hK.cell hcell (by simp)
      have hx0 : 0 ≤ I ∧ I < (n : Int) := by omega
      have hnext := framedL_succ a0 (ts.map xsOf) k (by rw [List.length_map]; omega)
      have hgd : (ts.map xsOf).getD k [] = xsOf p := by rw [hp]; simp [List.getD, List.getElem?_eq_getElem (show k < ts.length by omega)]
      rw [hgd, xsOf_length, ← hS] at hnext
      have hSle : S.size ≤ 1 + k * 2004 := by
        have := framedL_le a0 2000 ((ts.map xsOf).take k) (fun q hq => by
          obtain ⟨t, ht, rfl⟩ := List.mem_map.1 (List.mem_of_mem_take hq)
          rw [xsOf_length]; exact hps t ht)
        rw [← hS, xsOf_length, List.length_take, List.length_map, Nat.min_eq_left (by omega)] at this
        exact this
      obtain ⟨N, hN⟩ : ∃ N : Int, N = (p.size : Int) := ⟨_, rfl⟩
      have hb1 : IntKind.u64.wrap (p.size : Int) = N := by rw [IntKind.wrap_u64]; omega
      have hw4 : wordB ((p.size : Int) % 4294967296) = [N / 16777216, N / 65536, N / 256, N % 256] := by
        rw [hN, wordB, show (p.size : Int) % 4294967296 = p.size by omega, show (p.size : Int) / 16777216 % 256 = (p.size : Int) / 16777216 by omega, show (p.size : Int) / 65536 % 256 = (p.size : Int) / 65536 by omega, show (p.size : Int) / 256 % 256 = (p.size : Int) / 256 by omega]
      rw [hw4] at hnext
      obtain ⟨X, hX⟩ := ints_str [N / 16777216, N / 65536, N / 256, N % 256] (fun z hz => by simp at hz; omega)
      have hcv : Sem.run Tryd.prog (convert 56 9 (.slice (some ⟨wr.heap.size, 0, none⟩) 4 4)) (wr.alloc (.cells #[.int .u8 (N / 16777216), .int .u8 (N / 65536), .int .u8 (N / 256), .int .u8 (N % 256)] 5)) = .ok (.string X) (wr.alloc (.cells #[.int .u8 (N / 16777216), .int .u8 (N / 65536), .int .u8 (N / 256), .int .u8 (N % 256)] 5)) :=
        str_run _ _ 4 4 X (by rw [← xsOf_length, hX]; rfl) (by rw [hX]; exact BytesI.blk (Blk.new wr 5 (arrV .u8 [N / 16777216, N / 65536, N / 256, N % 256])) (fun j hj => by
          refine ⟨by simpa using hj, by rw [Nat.zero_add]⟩))
      have hXs : X.size = 4 := by rw [← xsOf_length, hX]; rfl
      have c1 : ∀ w, (Op.stringOp .add X p).run Tryd.prog w = .ok (.string (X ++ p)) w := fun w => cat_run w X p (by omega) (by omega)
      have hs2 : (X ++ p).size = 4 + p.size := by rw [ByteArray.size_append]; omega
      have hxp : xsOf (X ++ p) = [N / 16777216, N / 65536, N / 256, N % 256] ++ xsOf p := by rw [xsOf_append, hX]
      rw [← hxp, ← xsOf_append] at hnext
      obtain ⟨Y, hY⟩ : ∃ Y, Y = X ++ p := ⟨_, rfl⟩
      rw [← hY] at hs2 hnext c1
      have c2 : ∀ w, (Op.stringOp .add S Y).run Tryd.prog w = .ok (.string (S ++ Y)) w := fun w => cat_run w S Y (by omega) (by omega)
      obtain ⟨Z, hZ⟩ : ∃ Z, Z = S ++ Y := ⟨_, rfl⟩
      rw [← hZ] at c2 hnext
      have hN0 : 0 ≤ N ∧ N ≤ 2000 := by omega
      have HI := Lib.hid (And.intro hI (And.intro hlt hnext))
      have HK := Lib.hid hK
      clear hI hlt hnext hK hn hP hn64 hps hcell hp hpm hkI hgd hSle hN hw4 hX hXs hs2 hxp hY hZ hS hk
      go_wp2_with fail
      go_roundw
      case rel =>
        obtain ⟨hI, hlt, hnext⟩ := HI.out
        have := HX.out.2.2.1
        exact ⟨k + 1, Z, by omega, by rw [hI, w64 _ ⟨by omega, by omega⟩]; rfl, rfl, hnext.symm, grown_trans HK.out (World.grownBy_alloc wr _ none)⟩
      case measure => obtain ⟨hI, hlt, _⟩ := HI.out; have := HX.out.2.2.1; simp only [intOf]; rw [w64 _ ⟨by omega, by omega⟩]; omega
    · have d1 : decide (I < (n : Int)) = false := by simp; omega
      obtain rfl : k = n := by omega
      rw [List.take_of_length_le (by rw [List.length_map, HX.out.1]; exact Nat.le_refl _)] at hS
      have HS := Lib.hid (And.intro hS hK)
      clear hI hlt hk hS hK
      go_wp2_with fail
      go_ret
      exact ⟨S, rfl, HS.out.1, HS.out.2⟩
end Go.Proofs.YtjcbfenkpdpbeaaDoor
