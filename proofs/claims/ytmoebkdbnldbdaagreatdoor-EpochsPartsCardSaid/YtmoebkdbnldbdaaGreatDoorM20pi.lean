/-
  Several texts in one: RfF, RfOf, Ap, Ch.
-/
import Derived.Test.YtmoebkdbnldbdaaGreatDoorM20pg
import Derived.Test.YtmoebkdbnldbdaaGreatDoorM20ph
import Derived.OwnWalk
import Derived.Test.YtmoebkdbnldbdaaGreatDoorM20pb
/-
  quorateref02.Framed.
-/
namespace Go.Proofs.YtmoebkdbnldbdaaGreatDoor
open Go.RowKit

theorem xsOf_append (a b : ByteArray) : xsOf (a ++ b) = xsOf a ++ xsOf b := by simp [xsOf, ByteArray.data_append]
theorem xsOf_mk (l : List UInt8) : xsOf ⟨l.toArray⟩ = intsB l := by simp [xsOf, intsB]
theorem xsOf_ints (s : ByteArray) : xsOf s = intsB s.data.toList := rfl
theorem ints_str (L : List Int) (h : ∀ z ∈ L, 0 ≤ z ∧ z < 256) : ∃ s : ByteArray, xsOf s = L := by
  refine ⟨⟨(L.map fun z => UInt8.ofNat z.toNat).toArray⟩, ?_⟩
  rw [xsOf_mk, intsB, List.map_map]
  conv => rhs; rw [← List.map_id L]
  apply List.map_congr_left
  intro z hz
  have := h z hz
  simp
  omega
theorem intsB_inj : ∀ {a b : List UInt8}, intsB a = intsB b → a = b
  | [], [], _ => rfl
  | [], _ :: _, h => by simp [intsB] at h
  | _ :: _, [], h => by simp [intsB] at h
  | x :: a, y :: b, h => by
    simp only [intsB, List.map_cons, List.cons.injEq] at h
    rw [intsB_inj (a := a) (b := b) h.2, UInt8.toNat_inj.1 (by omega : x.toNat = y.toNat)]
theorem xsOf_inj {a b : ByteArray} (h : xsOf a = xsOf b) : a = b := by
  have := intsB_inj h
  apply ByteArray.ext
  exact Array.toList_inj.1 this
/-- A row of bytes as a string. -/
theorem str_run (w : World) (A : Option Addr) (n cap : Nat) (s : ByteArray) (hn : s.size = n) (hx : BytesI w A (xsOf s)) : Sem.run Tryz.prog (convert 61 9 (.slice A n cap)) w = .ok (.string s) w := by
  subst hn
  cases A with
  | none =>
    have h0 : s.size = 0 := by
      by_cases h : xsOf s = []
      · rw [← xsOf_length, h]; rfl
      · obtain ⟨ad, e, _⟩ := hx h; cases e
    have hs : s = ByteArray.empty := by
      apply xsOf_inj
      have h1 : (xsOf s).length = 0 := by rw [xsOf_length, h0]
      rw [List.eq_nil_of_length_eq_zero h1]; rfl
    rw [run_convert_bytes_string w 61 9 5 none s.size cap Tryz.underlying61 Tryz.underlying5 Tryz.underlying9, hs]
    simp [Conv.bytesToString]
  | some ad =>
    have h := run_convert_bytes_back w 61 9 5 ad cap s.data.toList Tryz.underlying61 Tryz.underlying5 Tryz.underlying9 (fun j hj => by
      have hne : xsOf s ≠ [] := by intro e; have := congrArg List.length e; rw [xsOf_length] at this; have h2 : s.data.toList.length = s.size := rfl; simp only [List.length_nil] at this; omega
      obtain ⟨ad', e, hc⟩ := hx hne
      obtain rfl := Option.some.inj e
      have h2 : s.data.toList.length = s.size := rfl
      rw [hc j (by rw [xsOf_length]; omega)]
      simp [xsOf, List.getD, List.getElem?_eq_getElem (show j < s.data.size by simpa using hj)])
    have h2 : s.data.toList.length = s.size := rfl
    rw [h2] at h
    simpa using h
/-- The text whose hash a short hash is. -/
def framedL (a0 : Int) (ps : List (List Int)) : List Int := a0 % 256 :: ps.flatMap fun p => wordB ((p.length : Int) % 4294967296) ++ p
theorem write_parts : ∀ (ps : List (List Int)) (s : HS), writeS s (ps.flatMap fun p => wordB ((p.length : Int) % 4294967296) ++ p) = ps.foldl partS s
  | [], s => rfl
  | p :: ps, s => by
    rw [List.flatMap_cons, writeS_append, writeS_append, write_parts ps]; rfl
theorem of_hash (a0 : Int) (ps : List (List Int)) : ofS a0 ps = (hashS (framedL a0 ps)).take 16 := by
  rw [ofS, hashS, framedL, framedS, ← write_parts, ← writeS_append]; rfl
theorem framedL_succ (a0 : Int) (ps : List (List Int)) (k : Nat) (h : k < ps.length) : framedL a0 (ps.take (k + 1)) = framedL a0 (ps.take k) ++ (wordB (((ps.getD k []).length : Int) % 4294967296) ++ ps.getD k []) := by
  rw [take_push' ps k [] h]
  simp [framedL]
theorem framedL_le (a0 : Int) (B : Nat) : ∀ ps : List (List Int), (∀ p ∈ ps, p.length ≤ B) → (framedL a0 ps).length ≤ 1 + ps.length * (B + 4)
  | [], _ => by simp [framedL]
  | p :: ps, h => by
    have ih := framedL_le a0 B ps (fun q hq => h q (by simp [hq]))
    have h1 := h p (by simp)
    have h4 : (wordB ((p.length : Int) % 4294967296)).length = 4 := rfl
    simp only [framedL, List.length_cons, List.flatMap_cons, List.length_append, Nat.succ_mul] at ih ⊢
    omega
/-- The texts lie at A. -/
def TextsI (w : World) (A : Option Addr) (ts : List ByteArray) : Prop := ∀ j, j < ts.length → ∃ ad, A = some ad ∧ w.cell? (ad.add j) = some (.string (ts.getD j ByteArray.empty))
theorem TextsI.grown {w w' : World} {A : Option Addr} {ts : List ByteArray} (h : TextsI w A ts) (hg : w.grownBy w' none) : TextsI w' A ts := fun j hj => by
  obtain ⟨ad, e, h1⟩ := h j hj
  exact ⟨ad, e, hg.cell h1 (by simp)⟩
theorem cat_run (w : World) (a b : ByteArray) (ha : a.size ≤ 1000000) (hb : b.size ≤ 1000000) : (Op.stringOp .add a b).run Tryz.prog w = .ok (.string (a ++ b)) w := run_string_add_sum w a b (by omega)

set_option maxRecDepth 100000 in
set_option maxHeartbeats 2000000 in
theorem framed_is (w : World) (a0 : Int) (A : Option Addr) (n c : Nat) (ts : List ByteArray) (hn : ts.length = n) (hP : TextsI w A ts) (hn64 : n ≤ 64) (hps : ∀ t ∈ ts, t.size ≤ 2000) :
    Calls Tryz.prog 29 #[.int .i64 a0, .slice A n c] w fun e w' => ∃ s, e = .returned (.string s) ∧ xsOf s = framedL a0 (ts.map xsOf) ∧ w.grownBy w' none := by
  obtain ⟨S0, hS0⟩ := ints_str [a0 % 256] (fun z hz => by simp at hz; omega)
  have hcv : Sem.run Tryz.prog (convert 61 9 (.slice (some ⟨w.heap.size, 0, none⟩) 1 1)) (w.alloc (.cells #[.int .u8 (a0 % 256)] 5)) = .ok (.string S0) (w.alloc (.cells #[.int .u8 (a0 % 256)] 5)) :=
    str_run _ _ 1 1 S0 (by rw [← xsOf_length, hS0]; rfl) (by rw [hS0]; exact BytesI.blk (Blk.new w 5 (arrV .u8 [a0 % 256])) (fun j hj => by simp at hj; subst hj; simp))
  have HX := Lib.hid (And.intro hn (And.intro hP (And.intro hn64 hps)))
  have HS0 := Lib.hid hS0
  clear hn hP hn64 hps hS0
  go_enter Tryz.func29, Tryz.ntmps29
  go_wp2_with fail
  clear hcv
  have HG0 := Lib.hid (World.grownBy_alloc w (.cells #[.int .u8 (a0 % 256)] 5) none)
  go_loopw [5, 15] (fun s i wr => ∃ (k : Nat) (S : ByteArray), k ≤ n ∧ i = .int .i64 (k : Int) ∧ s = .string S ∧ xsOf S = framedL a0 ((ts.map xsOf).take k) ∧ w.grownBy wr none) (fun _ i _ => n - (intOf i).toNat)
  case atStart => exact ⟨0, S0, by omega, rfl, rfl, HS0.out, HG0.out⟩
  case round =>
    obtain ⟨k, S, hk, hi, hs, hS, hK⟩ := hrel
    obtain ⟨I, hI⟩ : ∃ I : Int, I = (k : Int) := ⟨_, rfl⟩
    rw [← hI] at hi
    subst hi hs
    by_cases hlt : k < n
    · have d1 : decide (I < (n : Int)) = true := by simp; omega
      obtain ⟨hn, hP, hn64, hps⟩ := HX.out
      obtain ⟨ad, rfl, hcell⟩ := hP k (by omega)
      obtain ⟨p, hp⟩ : ∃ p, p = ts.getD k ByteArray.empty := ⟨_, rfl⟩
      rw [← hp] at hcell
      have hpm : p.size ≤ 2000 := by
        have : p ∈ ts := by rw [hp, List.getD, List.getElem?_eq_getElem (by omega : k < ts.length)]; exact List.getElem_mem _
        exact hps p this
      have hkI : I.toNat = k := by omega
      have hcy : wr.cell? (ad.add I.toNat) = some (.string p) := by rw [hkI]; exact hK.cell hcell (by simp)
      have hx0 : 0 ≤ I ∧ I < (n : Int) := by omega
      have hnext := framedL_succ a0 (ts.map xsOf) k (by rw [List.length_map]; omega)
      have hgd : (ts.map xsOf).getD k [] = xsOf p := by rw [hp]; simp [List.getD, List.getElem?_eq_getElem (show k < ts.length by omega)]
      rw [hgd, xsOf_length, ← hS] at hnext
      have hSle : S.size ≤ 1 + k * 2004 := by
        have := framedL_le a0 2000 ((ts.map xsOf).take k) (fun q hq => by
          obtain ⟨t, ht, rfl⟩ := List.mem_map.1 (List.mem_of_mem_take hq)
          rw [xsOf_length]; exact hps t ht)
        rw [← hS, xsOf_length, List.length_take, List.length_map, Nat.min_eq_left (by omega)] at this
        exact this
      obtain ⟨N, hN⟩ : ∃ N : Int, N = (p.size : Int) := ⟨_, rfl⟩
      have hb1 : IntKind.u64.wrap (p.size : Int) = N := by rw [IntKind.wrap_u64]; omega
      have hw4 : wordB ((p.size : Int) % 4294967296) = [N / 16777216, N / 65536, N / 256, N % 256] := by
        rw [hN, wordB, show (p.size : Int) % 4294967296 = p.size by omega, show (p.size : Int) / 16777216 % 256 = (p.size : Int) / 16777216 by omega, show (p.size : Int) / 65536 % 256 = (p.size : Int) / 65536 by omega, show (p.size : Int) / 256 % 256 = (p.size : Int) / 256 by omega]
      rw [hw4] at hnext
      obtain ⟨X, hX⟩ := ints_str [N / 16777216, N / 65536, N / 256, N % 256] (fun z hz => by simp at hz; omega)
      have hcv : Sem.run Tryz.prog (convert 61 9 (.slice (some ⟨wr.heap.size, 0, none⟩) 4 4)) (wr.alloc (.cells #[.int .u8 (N / 16777216), .int .u8 (N / 65536), .int .u8 (N / 256), .int .u8 (N % 256)] 5)) = .ok (.string X) (wr.alloc (.cells #[.int .u8 (N / 16777216), .int .u8 (N / 65536), .int .u8 (N / 256), .int .u8 (N % 256)] 5)) :=
        str_run _ _ 4 4 X (by rw [← xsOf_length, hX]; rfl) (by rw [hX]; exact BytesI.blk (Blk.new wr 5 (arrV .u8 [N / 16777216, N / 65536, N / 256, N % 256])) (fun j hj => by
          refine ⟨by simpa using hj, by rw [Nat.zero_add]⟩))
      have hXs : X.size = 4 := by rw [← xsOf_length, hX]; rfl
      have c1 : ∀ w, (Op.stringOp .add X p).run Tryz.prog w = .ok (.string (X ++ p)) w := fun w => cat_run w X p (by omega) (by omega)
      have hs2 : (X ++ p).size = 4 + p.size := by rw [ByteArray.size_append]; omega
      have hxp : xsOf (X ++ p) = [N / 16777216, N / 65536, N / 256, N % 256] ++ xsOf p := by rw [xsOf_append, hX]
      rw [← hxp, ← xsOf_append] at hnext
      obtain ⟨Y, hY⟩ : ∃ Y, Y = X ++ p := ⟨_, rfl⟩
      rw [← hY] at hs2 hnext c1
      have c2 : ∀ w, (Op.stringOp .add S Y).run Tryz.prog w = .ok (.string (S ++ Y)) w := fun w => cat_run w S Y (by omega) (by omega)
      obtain ⟨Z, hZ⟩ : ∃ Z, Z = S ++ Y := ⟨_, rfl⟩
      rw [← hZ] at c2 hnext
      have hN0 : 0 ≤ N ∧ N ≤ 2000 := by omega
      have HI := Lib.hid (And.intro hI (And.intro hlt hnext))
      have HK := Lib.hid hK
      clear hI hlt hnext hK hn hP hn64 hps hcell hp hpm hkI hgd hSle hN hw4 hX hXs hs2 hxp hY hZ hS hk
      go_wp2_with fail
      go_roundw
      case rel =>
        obtain ⟨hI, hlt, hnext⟩ := HI.out
        have := HX.out.2.2.1
        exact ⟨k + 1, Z, by omega, by rw [hI, w64 _ ⟨by omega, by omega⟩]; rfl, rfl, hnext.symm, grown_trans HK.out (World.grownBy_alloc wr _ none)⟩
      case measure => obtain ⟨hI, hlt, _⟩ := HI.out; have := HX.out.2.2.1; simp only [intOf]; rw [w64 _ ⟨by omega, by omega⟩]; omega
    · have d1 : decide (I < (n : Int)) = false := by simp; omega
      obtain rfl : k = n := by omega
      rw [List.take_of_length_le (by rw [List.length_map, HX.out.1]; exact Nat.le_refl _)] at hS
      have HS := Lib.hid (And.intro hS hK)
      clear hI hlt hk hS hK
      go_wp2_with fail
      go_ret
      exact ⟨S, rfl, HS.out.1, HS.out.2⟩
end Go.Proofs.YtmoebkdbnldbdaaGreatDoor
/-
  quorateref02.Of.
-/
namespace Go.Proofs.YtmoebkdbnldbdaaGreatDoor
open Go.RowKit

theorem fill_set (F : List Int) (m k : Nat) (hl : F.length = m) (hk : k < m) : (F.take k ++ List.replicate (m - k) 0).set k (F.getD k 0) = F.take (k + 1) ++ List.replicate (m - (k + 1)) 0 := by
  have hlk : (F.take k).length = k := by rw [List.length_take]; omega
  obtain ⟨q, hq⟩ : ∃ q, m - k = q + 1 := ⟨m - k - 1, by omega⟩
  rw [List.set_append_right _ _ (by omega), hlk, Nat.sub_self, hq, show m - (k + 1) = q by omega, List.replicate_succ, List.set_cons_zero, List.take_add_one, List.getD, List.getElem?_eq_getElem (by omega)]
  simp only [Option.getD_some, Option.toList_some, List.append_assoc, List.singleton_append]

set_option maxRecDepth 100000 in
set_option maxHeartbeats 2000000 in
theorem rof_is (w : World) (a0 : Int) (A : Option Addr) (n c : Nat) (ts : List ByteArray) (hn : ts.length = n) (hP : TextsI w A ts) (hn64 : n ≤ 64) (hps : ∀ t ∈ ts, t.size ≤ 2000) (htot : (framedL a0 (ts.map xsOf)).length ≤ 50000) :
    Calls Tryz.prog 18 #[.int .i64 a0, .slice A n c] w fun e w' => e = .returned (.agg (arrV .u8 (ofS a0 (ts.map xsOf)))) ∧ w.grownBy w' none := by
  obtain ⟨Z32, hZ32⟩ : ∃ Z, Z = arrV .u8 (List.replicate 32 0) := ⟨_, rfl⟩
  obtain ⟨Z16, hZ16⟩ : ∃ Z, Z = arrV .u8 (List.replicate 16 0) := ⟨_, rfl⟩
  have hz32 : ∀ w, Sem.run Tryz.prog (zeroValue 80) w = .ok (.agg Z32) w := fun w => by rw [hZ32]; exact zrun w (by kernel_rfl)
  have hz16 : ∀ w, Sem.run Tryz.prog (zeroValue 24) w = .ok (.agg Z16) w := fun w => by rw [hZ16]; exact zrun w (by kernel_rfl)
  have HZ := Lib.hid (show Z16 = arrV .u8 (List.replicate 16 0) ∧ Z32.size = 32 ∧ Z16.size = 16 ∧ (Z16.all fun v => v.oneCell') = true ∧ (Tryz.prog.info? 24).map (·.size) = some Z16.size from
    ⟨hZ16, by rw [hZ32]; rfl, by rw [hZ16]; rfl, by rw [hZ16]; exact arr_one _ _, by rw [hZ16]; kernel_rfl⟩)
  have HX := Lib.hid (And.intro hn (And.intro hP (And.intro hn64 (And.intro hps htot))))
  clear hZ32 hZ16 hn hP hn64 hps htot
  go_enter Tryz.func18, Tryz.ntmps18
  go_wp2_with fail
  obtain ⟨w0, hw0⟩ : ∃ w0, w0 = w.alloc (.cells Z16 24) := ⟨_, rfl⟩
  rw [← hw0]
  have HG0 := Lib.hid (show w.grownBy w0 none by rw [hw0]; exact World.grownBy_alloc _ _ none)
  have HB0 := Lib.hid (show Blk w0 w.heap.size 24 Z16 by rw [hw0]; exact Blk.new _ _ _)
  clear hw0
  refine (framed_is w0 a0 A n c ts HX.out.1 (HX.out.2.1.grown HG0.out) HX.out.2.2.1 HX.out.2.2.2.1).mono ?_
  rintro e w1 ⟨s, rfl, hs, hk1⟩
  have HS := Lib.hid hs
  have HG1 := Lib.hid (grown_trans HG0.out hk1)
  have HB1 := Lib.hid (HB0.out.grown hk1 (by simp))
  clear hs hk1 HG0 HB0
  go_wp2_with fail
  refine (rsum_isK20 w1 s (by rw [← xsOf_length, HS.out]; exact HX.out.2.2.2.2)).mono ?_
  rintro e w2 ⟨rfl, hk2⟩
  rw [HS.out]
  obtain ⟨F, hF⟩ : ∃ F, F = hashS (framedL a0 (ts.map xsOf)) := ⟨_, rfl⟩
  obtain ⟨ds, hds⟩ : ∃ ds, ds = arrV .u8 F := ⟨_, rfl⟩
  rw [← hF, ← hds]
  have hFl : F.length = 32 := by rw [hF, hashS_length]
  have hO : ofS a0 (ts.map xsOf) = F.take 16 := by rw [of_hash, hF]
  have hsz : ds.size = 32 := by rw [hds, arr_size, hFl]
  have HI3 := Lib.hid (show (Tryz.prog.info? 80).map (·.size) = some ds.size by rw [hsz]; exact info32)
  have HS3 := Lib.hid (And.intro hsz (show (ds.all fun x => x.oneCell') = true by rw [hds]; exact arr_one _ _))
  have HF := Lib.hid (And.intro hds (And.intro hFl hO))
  have HG2 := Lib.hid (grown_trans HG1.out hk2)
  have HB2 := Lib.hid (HB1.out.grown hk2 (by simp))
  clear hsz hds hk2 HG1 HB1 hF hFl hO HS
  go_wp2_with (first
    | (refine wpList_build_run rfl 24 #[] rfl (.agg Z16) (by rw [HZ.out.1]; kernel_rfl) ?_)
    | (refine wpList_store_row rfl 80 _ _ rfl w2.heap.size ds rfl rfl 80 _ (heap_alloc_new w2 _) HI3.out (by rw [HS3.out.1]; exact HZ.out.2.1) HS3.out.2 ?_
       obtain ⟨w3, hw3⟩ : ∃ w3, w3 = (w2.alloc (.cells Z32 80)).setRow w2.heap.size ds := ⟨_, rfl⟩
       rw [← hw3]
       have HW3 := Lib.hid hw3
       clear hw3)
    | (refine wpList_store_row rfl 24 _ _ rfl w3.heap.size Z16 rfl rfl 24 _ (heap_alloc_new w3 _) HZ.out.2.2.2.2 rfl HZ.out.2.2.2.1 ?_
       obtain ⟨w4, hw4⟩ : ∃ w4, w4 = (w3.alloc (.cells Z16 24)).setRow w3.heap.size Z16 := ⟨_, rfl⟩
       rw [← hw4]
       have HW4 := Lib.hid hw4
       clear hw4))
  obtain ⟨gs, hgs⟩ : ∃ gs, gs = w2.heap.size := ⟨_, rfl⟩
  obtain ⟨gd, hgd⟩ : ∃ gd, gd = w3.heap.size := ⟨_, rfl⟩
  rw [← hgs, ← hgd]
  have s3 : gd = gs + 1 := by rw [hgd, HW3.out, setRow_size, World.size_alloc, hgs]
  have hlt : w.heap.size < gs := by rw [hgs]; exact HB2.out.lt
  have b3 : Blk w3 gs 80 ds := by rw [HW3.out, hgs]; exact (Blk.new w2 _ Z32).row ds
  have r3 : Blk w3 w.heap.size 24 Z16 := by rw [HW3.out]; exact (HB2.out.alloc _).farRow (by omega) _
  have k3 : w.grownBy w3 none := by rw [HW3.out]; exact grown_row (grown_trans HG2.out (World.grownBy_alloc w2 _ none)) (.inl (by omega)) _
  have b4 : Blk w4 gs 80 ds := by rw [HW4.out]; exact (b3.alloc _).farRow (by omega) _
  have r4 : Blk w4 w.heap.size 24 Z16 := by rw [HW4.out]; exact (r3.alloc _).farRow (by omega) _
  have k4 : w.grownBy w4 none := by rw [HW4.out]; exact grown_row (grown_trans k3 (World.grownBy_alloc w3 _ none)) (.inl (by omega)) _
  have d4 : Blk w4 gd 24 (arrV .u8 (F.take 0 ++ List.replicate (16 - 0) 0)) := by rw [HW4.out, hgd]; simp only [List.take_zero, List.nil_append, Nat.sub_zero]; rw [← HZ.out.1]; exact (Blk.new w3 _ Z16).row Z16
  have H4 := Lib.hid (And.intro d4 (And.intro b4 (And.intro r4 k4)))
  have HN := Lib.hid (And.intro s3 hlt)
  clear hgs hgd s3 hlt b3 r3 k3 b4 r4 k4 d4 HG2 HB2 HI3 HS3
  go_loopw [13] (fun i wr => ∃ k : Nat, k ≤ 16 ∧ i = .int .i64 (k : Int) ∧ Blk wr gd 24 (arrV .u8 (F.take k ++ List.replicate (16 - k) 0)) ∧ Blk wr gs 80 ds ∧ Blk wr w.heap.size 24 Z16 ∧ w.grownBy wr none) (fun i _ => 16 - (intOf i).toNat)
  case atStart => exact ⟨0, by omega, rfl, H4.out⟩
  case round =>
    obtain ⟨k, hk, hi, hD, hS, hR, hG⟩ := hrel
    obtain ⟨K, hK⟩ : ∃ K : Int, K = (k : Int) := ⟨_, rfl⟩
    rw [← hK] at hi
    subst hi
    by_cases hlt : k < 16
    · have d2 : decide (K < 16) = true := by simp; omega
      have hx : 0 ≤ K ∧ K < 16 := by omega
      have hy : 0 ≤ K ∧ K < 32 := by omega
      have hln : (F.take k ++ List.replicate (16 - k) 0).length = 16 := by have := HF.out.2.1; rw [List.length_append, List.length_take, List.length_replicate]; omega
      have cs : wr.cell? ⟨gs, K.toNat, none⟩ = some (.int .u8 (F.getD K.toNat 0)) := by rw [hS.cell, HF.out.1]; exact arr_get (by rw [HF.out.2.1]; omega)
      have cd : wr.cell? ⟨gd, K.toNat, none⟩ = some (.int .u8 ((F.take k ++ List.replicate (16 - k) 0).getD K.toNat 0)) := by rw [hD.cell]; exact arr_get (by omega)
      have fd := hD.frozen K.toNat
      have hnx : (F.take k ++ List.replicate (16 - k) 0).set K.toNat (F.getD K.toNat 0) = F.take (k + 1) ++ List.replicate (16 - (k + 1)) 0 := by
        rw [show K.toNat = k by omega]
        have := fill_set (F.take 16) 16 k (by rw [List.length_take, HF.out.2.1]; rfl) hlt
        rw [List.take_take, List.take_take, Nat.min_eq_left (by omega), Nat.min_eq_left (by omega)] at this
        rw [← this]
        congr 1
        simp [List.getD, hlt]
      obtain ⟨y, hyy⟩ : ∃ y, y = F.getD K.toNat 0 := ⟨_, rfl⟩
      obtain ⟨z, hzz⟩ : ∃ z, z = (F.take k ++ List.replicate (16 - k) 0).getD K.toNat 0 := ⟨_, rfl⟩
      rw [← hyy] at cs hnx
      rw [← hzz] at cd
      have HK := Lib.hid (And.intro hK (And.intro hlt (And.intro hnx (And.intro hD (And.intro hS (And.intro hR hG))))))
      clear hK hlt hnx hD hS hR hG hyy hzz hln hk
      go_wp2_with fail
      go_roundw
      case rel =>
        obtain ⟨hK, hlt, hnx, hD, hS, hR, hG⟩ := HK.out
        obtain ⟨s3, hl⟩ := HN.out
        refine ⟨k + 1, by omega, by rw [hK]; rfl, ?_, hS.far (p := ⟨gd, K.toNat, none⟩) (by dsimp only; omega) _, hR.far (p := ⟨gd, K.toNat, none⟩) (by dsimp only; omega) _, grown_far hG (p := ⟨gd, K.toNat, none⟩) (.inl (by dsimp only; omega)) _⟩
        rw [← hnx]
        have := hD.set K.toNat (.int .u8 y)
        rwa [arr_set] at this
      case measure => obtain ⟨hK, hlt, _⟩ := HK.out; simp [intOf]; omega
    · obtain rfl : k = 16 := by omega
      have d2 : decide (K < 16) = false := by simp; omega
      obtain ⟨c6, hc6⟩ : ∃ c6, c6 = arrV .u8 (ofS a0 (ts.map xsOf)) := ⟨_, rfl⟩
      rw [Nat.sub_self, List.replicate_zero, List.append_nil, ← HF.out.2.2, ← hc6] at hD
      have hs16 : c6.size = 16 := by rw [hc6, arr_size, ofS_length]
      have HI6 := Lib.hid (show (Tryz.prog.info? 24).map (·.size) = some c6.size by rw [hs16]; kernel_rfl)
      have HS6 := Lib.hid (And.intro hs16 (And.intro (show (c6.all fun x => x.oneCell') = true by rw [hc6]; exact arr_one _ _) hc6))
      have HD := Lib.hid hD
      have HRR := Lib.hid hR
      have HG := Lib.hid hG
      clear hK hlt hD hS hR hG hs16 hc6 hk
      go_wp2_with (first
        | (refine wpList_load_row rfl 24 _ rfl gd rfl 24 c6 (0, 0) _ HD.out Tryz.underlying24 rfl HI6.out ?_)
        | (refine wpList_store_row rfl 24 _ _ rfl w.heap.size c6 rfl rfl 24 _ HRR.out HI6.out (by rw [HS6.out.1]; exact HZ.out.2.2.1) HS6.out.2.1 ?_))
      refine bodyPost_ret (results_cell rfl _ _ _ ⟨w.heap.size, 0, none⟩ (.agg c6) rfl (run_loadVar_row _ w.heap.size 24 24 c6 (0, 0) _ (HRR.out.row c6) Tryz.underlying24 rfl HI6.out)) rfl ?_
      exact ⟨by rw [HS6.out.2.2], grown_row HG.out (.inl (Nat.le_refl _)) c6⟩
end Go.Proofs.YtmoebkdbnldbdaaGreatDoor
/-
  append of one element that is one cell; what an owned row's growth leaves.
-/
namespace Go.Proofs.YtmoebkdbnldbdaaGreatDoor
open Go.RowKit

theorem grown_own {a b c : World} {v : Value} {base size : Nat} {e : TypeId} {n : Nat} {xs : List Value} (h : a.grownBy b none) (k : b.grownBy c v.ownBlock) (hv : b.ownsRow base e size v n xs) (hB : a.heap.size ≤ base) : a.grownBy c none := by
  cases hg : v.ownBlock with
  | none => rw [hg] at k; exact grown_trans h k
  | some g => rw [hg] at k; exact grown_fresh h k (Nat.le_trans hB (hv.lt g hg).1)
theorem wpList_push {P : Program} {w0 : World} {ops : Array Oper} {rest : List Oper} {o : Oper} {a : Act} {Q : Exit → Act → World → Prop} (hgd : o.guard = none) (s x : Operand) (t : TypeId)
    (ho : o.op = .call { callee := .builtin .append, args := #[s, x], argTypes := #[t, t] }) (base : Nat) (e e0 : TypeId) (i : TypeInfo) (z : Value) (bytes : Nat) (ht : P.underlying t = some (.slice e)) (hi : P.info? e = some i) (hz : i.zero = some z) (hsize : i.size = 1) (hby : i.bytes = bytes) (hzs : z.cells.size = 1)
    (v : Value) (n : Nat) (xs : List Value) (hs : a.eval s = v) (hown : w0.ownsRow base e 1 v n xs) (u : Value) (hu1 : u.oneCell' = true) (hx : a.eval x = .slice (some ⟨w0.heap.size, 0, none⟩) 1 1) (hn : n ≤ 1000000) (hb : bytes ≤ 1000) (hbase : base ≤ w0.heap.size)
    (h : ∀ v' w', w'.ownsRow base e 1 v' (n + 1) (xs ++ [u]) → w0.grownBy w' v.ownBlock → wpList P ops Q rest (a.put o.dst v') w') : wpList P ops Q (o :: rest) a (w0.alloc (.cells #[u] e0)) := by
  refine wpList_append_own _ hgd s x t ho base e i z 1 bytes ht hi hz hsize hby hzs (by omega) v n xs hs (hown.alloc _) ⟨w0.heap.size, 0, none⟩ 1 1 [u] hx rfl (fun j y hy => ?_) (by simp [hu1]) (by simp only [maxLen]; omega) (by
    have := Nat.mul_le_mul (show n + 1 ≤ 1000001 by omega) hb
    omega) (by rw [World.size_alloc]; omega) (fun v' w' h1 h2 _ => h v' w' h1 (grown_trans (World.grownBy_alloc w0 _ _) h2))
  have : j = 0 := by
    have := (List.getElem?_eq_some_iff.1 hy).1
    simp at this
    omega
  subst this
  have h1 := (Blk.new w0 e0 #[u]).cell 0
  rw [show (⟨w0.heap.size, 0, none⟩ : Addr).add 0 = ⟨w0.heap.size, 0, none⟩ by simp [Addr.add], h1]
  simpa using hy
end Go.Proofs.YtmoebkdbnldbdaaGreatDoor
/-
  Chains of hashes as lists of numbers.
-/
namespace Go.Proofs.YtmoebkdbnldbdaaGreatDoor
open Go.RowKit

theorem over_mem : ∀ (y bs : List Int) (a : Nat) (z : Int), z ∈ over bs a y → z ∈ bs ∨ z ∈ y
  | [], bs, a, z, h => .inl h
  | x :: y, bs, a, z, h => by
    rcases over_mem y (bs.set a x) (a + 1) z h with h | h
    · rcases List.mem_or_eq_of_mem_set h with h | h
      · exact .inl h
      · exact .inr (by simp [h])
    · exact .inr (by simp [h])
theorem sumW_byte (ws : List Int) : ∀ (k : Nat) (z : Int), z ∈ sumWK20 ws k → 0 ≤ z ∧ z < 256
  | 0, z, h => by
    have : z = 0 := by simpa [sumWK20] using List.eq_of_mem_replicate h
    omega
  | k + 1, z, h => by
    rcases over_mem _ _ _ z h with h | h
    · exact sumW_byte ws k z h
    · simp only [wordB, List.mem_cons, List.not_mem_nil, or_false] at h
      omega
/-- Sixteen bytes. -/
def isDig (l : List Int) : Prop := l.length = 16 ∧ ∀ z ∈ l, 0 ≤ z ∧ z < 256
theorem ofS_dig (a0 : Int) (ps : List (List Int)) : isDig (ofS a0 ps) := ⟨ofS_length _ _, fun z hz => sumW_byte _ _ z (List.mem_of_mem_take hz)⟩
def stepC (x : List Int) (lf i k : Int) : List Int := ofS 2 [x, [lf % 256], [i % 256], [k % 256]]
/-- What x comes to by n steps from place lo on. -/
def runC (x : List Int) (lf i lo : Int) : Nat → List Int
  | 0 => x
  | n + 1 => stepC (runC x lf i lo n) lf i (lo + n)
theorem stepC_dig (x : List Int) (lf i k : Int) : isDig (stepC x lf i k) := by rw [stepC]; exact ofS_dig _ _
theorem runC_succ (x : List Int) (lf i lo : Int) (n : Nat) : runC x lf i lo (n + 1) = stepC (runC x lf i lo n) lf i (lo + n) := by rw [runC]
theorem runC_dig (x : List Int) (lf i lo : Int) (hx : isDig x) (n : Nat) : isDig (runC x lf i lo n) := by
  cases n with
  | zero => rw [runC]; exact hx
  | succ n => rw [runC_succ]; exact stepC_dig _ _ _ _
theorem runC_add (x : List Int) (lf i lo : Int) (m : Nat) : ∀ n, runC x lf i lo (m + n) = runC (runC x lf i lo m) lf i (lo + m) n
  | 0 => by rw [Nat.add_zero, runC]
  | n + 1 => by
    rw [← Nat.add_assoc, runC_succ, runC_succ, runC_add x lf i lo m n, show lo + ((m + n : Nat) : Int) = lo + m + n by omega]
def secC (seed : List Int) (lf i : Int) : List Int := ofS 1 [seed, [lf % 256], [i % 256]]
theorem secC_dig (seed : List Int) (lf i : Int) : isDig (secC seed lf i) := by rw [secC]; exact ofS_dig _ _
/-- As many pieces, one behind the other. -/
def rowC (f : Nat → List Int) : Nat → List Int
  | 0 => []
  | n + 1 => rowC f n ++ f n
theorem rowC_length (f : Nat → List Int) (h : ∀ k, (f k).length = 16) : ∀ n, (rowC f n).length = 16 * n
  | 0 => rfl
  | n + 1 => by rw [rowC, List.length_append, rowC_length f h n, h]; omega
theorem rowC_range (f : Nat → List Int) (h : ∀ k, isDig (f k)) : ∀ n, ∀ z ∈ rowC f n, 0 ≤ z ∧ z < 256
  | 0, z, hz => by cases hz
  | n + 1, z, hz => by
    rcases List.mem_append.1 hz with h1 | h1
    · exact rowC_range f h n z h1
    · exact (h n).2 z h1
def pubC (lf : Int) (ends : List Int) : List Int := ofS 3 [[lf % 256], ends]
end Go.Proofs.YtmoebkdbnldbdaaGreatDoor
