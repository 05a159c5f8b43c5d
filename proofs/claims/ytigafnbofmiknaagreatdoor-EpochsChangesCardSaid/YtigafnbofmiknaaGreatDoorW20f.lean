/- Arg0, ArgB, ShArg, RfF, RfOf -/
import Derived.Test.YtigafnbofmiknaaGreatDoorW20e
import Derived.Deep.Slices
import Derived.Deep.Fields
import Derived.Test.YtigafnbofmiknaaGreatDoorW20c
import Derived.Test.YtigafnbofmiknaaGreatDoorW20d
import Derived.Test.YtigafnbofmiknaaGreatDoorRfS
namespace Go.Proofs.YtigafnbofmiknaaGreatDoor
set_option maxRecDepth 100000
set_option maxHeartbeats 10000000
open Go.RowKit
section
open Go.ChangeShapes Go.WideShapes Go.ChangeAt Go.RowKit
section
variable {H : Type} {enc : TypeId × Value -> H} {w : World} {base : Nat} {spare : Nat -> Bool} {held : Bool} {fuel : Nat} {cs : List Value} {x : DataW H × List MemPlace}
theorem zcq {ad : Addr} {k : Nat} {v : Value} (h : w.cell? (ad.add k) = some v) (hs : k = 0) : ∃ b off, ad = ⟨b, off, none⟩ := by
 subst hs
 obtain ⟨b, off, spot⟩ := ad
 have hspot : spot = none := by simpa [Addr.add] using World.cell?_spot h
 subst hspot
 exact ⟨b, off, rfl⟩
end
end
section
open Go.ChangeShapes Go.WideShapes Go.ChangeAt Go.RowKit
section
variable {H : Type} {enc : TypeId × Value -> H} {w : World} {base : Nat} {spare : Nat -> Bool} {held : Bool} {fuel : Nat} {cs : List Value} {x : DataW H × List MemPlace}
theorem u8_of {z : Int} (h : (Lit.int .u8 z).wf = true) : (((UInt8.ofNat z.toNat).toNat : Nat) : Int) = z := by
 have hz : 0 <= z /\ z <= 255 := by simpa [Lit.wf, IntKind.min, IntKind.max, IntKind.signed, IntKind.bits] using h
 simp; omega
theorem open_bytes (h : DataW.trod enc Tryz.prog w base spare held fuel 81 cs = some x) :
    ∃ A n c, ∃ l : List UInt8, cs = [.slice A n c] /\ l.length = n /\ n <= c /\ c <= maxLen /\ zt w A l /\ ∀ ad, A = some ad -> l ≠ [] -> ad.block < w.heap.size := by
 rcases open_ints Tryz.underlying81 Tryz.underlying5 (by kernel_rfl) h with ⟨hcs, _⟩ | ⟨a, len, cap, zs, hcs, _, hl, hm, hz, _, hcell, hwf⟩
 · exact ⟨none, 0, 0, [], hcs, rfl, Nat.le_refl _, by simp [maxLen], zt.nil _ _, fun _ e => by cases e⟩
 · have hlz : len <= zs.length := by rw [hz]; split <;> omega
   have hc : ∀ j (hj : j < ((zs.take len).map fun z => UInt8.ofNat z.toNat).length), w.cell? (a.add j) = some (.int .u8 (((zs.take len).map fun z => UInt8.ofNat z.toNat)[j].toNat : Nat)) := by
    intro j hj
    have hj' : j < len := by simp at hj; omega
    rw [hcell j (by omega)]
    simp only [List.getElem_map, List.getElem_take]
    rw [u8_of (hwf _ (List.getElem_mem _))]
    simp [List.getD, List.getElem?_eq_getElem (show j < zs.length by omega)]
   refine ⟨some a, len, cap, (zs.take len).map fun z => UInt8.ofNat z.toNat, hcs, by simp; omega, hl, hm, fun _ => ⟨a, rfl, hc⟩, ?_⟩
   intro ad e hne
   injection e with e
   subst e
   have h0 := hc 0 (List.length_pos_iff.2 hne)
   have := World.block_lt_of_cell? w _ h0
   rwa [yk] at this
theorem zt.get {A : Option Addr} {l : List UInt8} (h : zt w A l) (hl : l ≠ []) : ∃ b off, A = some ⟨b, off, none⟩ /\ ∀ j (hj : j < l.length), w.cell? ⟨b, off + j, none⟩ = some (.int .u8 l[j].toNat) := by
 obtain ⟨ad, rfl, hc⟩ := h hl
 obtain ⟨b, off, rfl⟩ := zcq (hc 0 (List.length_pos_iff.2 hl)) rfl
 exact ⟨b, off, rfl, fun j hj => by rw [<- Go.WideShapes.add_plain]; exact hc j hj⟩
end
end
section
open Go.ChangeShapes Go.WideShapes Go.ChangeAt Go.RowKit
def intsB (l : List UInt8) : List Int := l.map fun b => ((b.toNat : Nat) : Int)
theorem intsB_length (l : List UInt8) : (intsB l).length = l.length := by simp [intsB]
theorem BytesI.of {w : World} {A : Option Addr} {l : List UInt8} (h : zt w A l) : BytesI w A (intsB l) := fun hne => by
 obtain ⟨ad, rfl, hc⟩ := h (by rintro rfl; exact hne rfl)
 refine ⟨ad, rfl, fun j hj => ?_⟩
 rw [intsB_length] at hj
 rw [hc j hj]
 simp [intsB, List.getD, List.getElem?_eq_getElem hj]
end
section
theorem zby (a b : ByteArray) : xsOf (a ++ b) = xsOf a ++ xsOf b := by simp [xsOf, ByteArray.data_append]
theorem zey (l : List UInt8) : xsOf ⟨l.toArray⟩ = intsB l := by simp [xsOf, intsB]
theorem zbd (L : List Int) (h : ∀ z ∈ L, 0 <= z /\ z < 256) : ∃ s : ByteArray, xsOf s = L := by
 refine ⟨⟨(L.map fun z => UInt8.ofNat z.toNat).toArray⟩, ?_⟩
 rw [zey, intsB, List.map_map]
 conv => rhs; rw [<- List.map_id L]
 apply List.map_congr_left
 intro z hz
 have := h z hz
 simp
 omega
theorem zdq : ∀ {a b : List UInt8}, intsB a = intsB b -> a = b
 | [], [], _ => rfl
 | [], _ :: _, h => by simp [intsB] at h
 | _ :: _, [], h => by simp [intsB] at h
 | x :: a, y :: b, h => by
  simp only [intsB, List.map_cons, List.cons.injEq] at h
  rw [zdq (a := a) (b := b) h.2, UInt8.toNat_inj.1 (by omega : x.toNat = y.toNat)]
theorem xsOf_inj {a b : ByteArray} (h : xsOf a = xsOf b) : a = b := by
 have := zdq h
 apply ByteArray.ext
 exact Array.toList_inj.1 this
theorem zb2 (w : World) (A : Option Addr) (n cap : Nat) (s : ByteArray) (hn : s.size = n) (hx : BytesI w A (xsOf s)) : Sem.run Tryz.prog (convert 81 9 (.slice A n cap)) w = .ok (.string s) w := by
 subst hn
 cases A with
 | none =>
  have h0 : s.size = 0 := by
   by_cases h : xsOf s = []
   · rw [<- z4, h]; rfl
   · obtain ⟨ad, e, _⟩ := hx h; cases e
  have hs : s = ByteArray.empty := by
   apply xsOf_inj
   have h1 : (xsOf s).length = 0 := by rw [z4, h0]
   rw [List.eq_nil_of_length_eq_zero h1]; rfl
  rw [run_convert_bytes_string w 81 9 5 none s.size cap Tryz.underlying81 Tryz.underlying5 Tryz.underlying9, hs]
  simp [Conv.bytesToString]
 | some ad =>
  have h := run_convert_bytes_back w 81 9 5 ad cap s.data.toList Tryz.underlying81 Tryz.underlying5 Tryz.underlying9 (fun j hj => by
   have hne : xsOf s ≠ [] := by intro e; have := congrArg List.length e; rw [z4] at this; have h2 : s.data.toList.length = s.size := rfl; simp only [List.length_nil] at this; omega
   obtain ⟨ad', e, hc⟩ := hx hne
   obtain rfl := Option.some.inj e
   have h2 : s.data.toList.length = s.size := rfl
   rw [hc j (by rw [z4]; omega)]
   simp [xsOf, List.getD, List.getElem?_eq_getElem (show j < s.data.size by simpa using hj)])
  have h2 : s.data.toList.length = s.size := rfl
  rw [h2] at h
  simpa using h
def vz (a0 : Int) (ps : List (List Int)) : List Int := a0 % 256 :: ps.flatMap fun p => wordB ((p.length : Int) % 4294967296) ++ p
theorem write_parts : ∀ (ps : List (List Int)) (s : HS), writeS s (ps.flatMap fun p => wordB ((p.length : Int) % 4294967296) ++ p) = ps.foldl partS s
 | [], s => rfl
 | p :: ps, s => by
  rw [List.flatMap_cons, yu, yu, write_parts ps]; rfl
theorem of_hash (a0 : Int) (ps : List (List Int)) : ofS a0 ps = (hashS (vz a0 ps)).take 16 := by
 rw [ofS, hashS, vz, zel, <- write_parts, <- yu]; rfl
theorem framedL_succ (a0 : Int) (ps : List (List Int)) (k : Nat) (h : k < ps.length) : vz a0 (ps.take (k + 1)) = vz a0 (ps.take k) ++ (wordB (((ps.getD k []).length : Int) % 4294967296) ++ ps.getD k []) := by
 rw [zcr ps k [] h]
 simp [vz]
theorem uo (a0 : Int) (B : Nat) : ∀ ps : List (List Int), (∀ p ∈ ps, p.length <= B) -> (vz a0 ps).length <= 1 + ps.length * (B + 4)
 | [], _ => by simp [vz]
 | p :: ps, h => by
  have ih := uo a0 B ps (fun q hq => h q (by simp [hq]))
  have h1 := h p (by simp)
  have h4 : (wordB ((p.length : Int) % 4294967296)).length = 4 := rfl
  simp only [vz, List.length_cons, List.flatMap_cons, List.length_append, Nat.succ_mul] at ih ⊢
  omega
def TextsI (w : World) (A : Option Addr) (ts : List ByteArray) : Prop := ∀ j, j < ts.length -> ∃ ad, A = some ad /\ w.cell? (ad.add j) = some (.string (ts.getD j ByteArray.empty))
theorem TextsI.grown {w w' : World} {A : Option Addr} {ts : List ByteArray} (h : TextsI w A ts) (hg : w.grownBy w' none) : TextsI w' A ts := fun j hj => by
 obtain ⟨ad, e, h1⟩ := h j hj
 exact ⟨ad, e, hg.cell h1 (by simp)⟩
theorem ze8 (w : World) (a b : ByteArray) (ha : a.size <= 1000000) (hb : b.size <= 1000000) : (Op.stringOp .add a b).run Tryz.prog w = .ok (.string (a ++ b)) w := run_string_add_sum w a b (by omega)
theorem framed_is (w : World) (a0 : Int) (A : Option Addr) (n c : Nat) (ts : List ByteArray) (hn : ts.length = n) (hP : TextsI w A ts) (hn64 : n <= 64) (hps : ∀ t ∈ ts, t.size <= 10000) :
    Calls Tryz.prog 48 #[.int .i64 a0, .slice A n c] w fun e w' => ∃ s, e = .returned (.string s) /\ xsOf s = vz a0 (ts.map xsOf) /\ w.grownBy w' none := by
 obtain ⟨S0, hS0⟩ := zbd [a0 % 256] (fun z hz => by simp at hz; omega)
 have hcv : Sem.run Tryz.prog (convert 81 9 (.slice (some ⟨w.heap.size, 0, none⟩) 1 1)) (w.alloc (.cells #[.int .u8 (a0 % 256)] 5)) = .ok (.string S0) (w.alloc (.cells #[.int .u8 (a0 % 256)] 5)) :=
  zb2 _ _ 1 1 S0 (by rw [<- z4, hS0]; rfl) (by rw [hS0]; exact BytesI.blk (Blk.new w 5 (arrV .u8 [a0 % 256])) (fun j hj => by simp at hj; subst hj; simp))
 have HX := hQ_ (aQ hn (aQ hP (aQ hn64 hps)))
 have HS0 := hQ_ hS0
 clear hn hP hn64 hps hS0
 go_enter Tryz.func48, Tryz.ntmps48
 go_wp2_with fail
 clear hcv
 have HG0 := hQ_ (World.grownBy_alloc w (.cells #[.int .u8 (a0 % 256)] 5) none)
 go_loopw [5, 15] (fun s i wr => ∃ (k : Nat) (S : ByteArray), k <= n /\ i = .int .i64 (k : Int) /\ s = .string S /\ xsOf S = vz a0 ((ts.map xsOf).take k) /\ w.grownBy wr none) (fun _ i _ => n - (intOf i).toNat)
 case atStart => exact ⟨0, S0, by omega, rfl, rfl, HS0.out, HG0.out⟩
 case round =>
  obtain ⟨k, S, hk, hi, hs, hS, hK⟩ := hrel
  obtain ⟨I, hI⟩ : ∃ I : Int, I = (k : Int) := ⟨_, rfl⟩
  rw [<- hI] at hi
  subst hi hs
  by_cases hlt : k < n
  · have d1 : decide (I < (n : Int)) = true := by simp; omega
    obtain ⟨hn, hP, hn64, hps⟩ := HX.out
    obtain ⟨ad, rfl, hcell⟩ := hP k (by omega)
    obtain ⟨p, hp⟩ : ∃ p, p = ts.getD k ByteArray.empty := ⟨_, rfl⟩
    rw [<- hp] at hcell
    have hpm : p.size <= 10000 := by
     have : p ∈ ts := by rw [hp, List.getD, List.getElem?_eq_getElem (by omega : k < ts.length)]; exact List.getElem_mem _
     exact hps p this
    have hkI : I.toNat = k := by omega
    have hcy : wr.cell? (ad.add I.toNat) = some (.string p) := by rw [hkI]; exact hK.cell hcell (by simp)
    have hx0 : 0 <= I /\ I < (n : Int) := by omega
    have hnext := framedL_succ a0 (ts.map xsOf) k (by rw [List.length_map]; omega)
    have hgd : (ts.map xsOf).getD k [] = xsOf p := by rw [hp]; simp [List.getD, List.getElem?_eq_getElem (show k < ts.length by omega)]
    rw [hgd, z4, <- hS] at hnext
    have hSle : S.size <= 1 + k * 10004 := by
     have := uo a0 10000 ((ts.map xsOf).take k) (fun q hq => by
      obtain ⟨t, ht, rfl⟩ := List.mem_map.1 (List.mem_of_mem_take hq)
      rw [z4]; exact hps t ht)
     rw [<- hS, z4, List.length_take, List.length_map, Nat.min_eq_left (by omega)] at this
     exact this
    obtain ⟨N, hN⟩ : ∃ N : Int, N = (p.size : Int) := ⟨_, rfl⟩
    have hb1 : IntKind.u64.wrap (p.size : Int) = N := by rw [IntKind.wrap_u64]; omega
    have hw4 : wordB ((p.size : Int) % 4294967296) = [N / 16777216, N / 65536, N / 256, N % 256] := by
     rw [hN, wordB, show (p.size : Int) % 4294967296 = p.size by omega, show (p.size : Int) / 16777216 % 256 = (p.size : Int) / 16777216 by omega, show (p.size : Int) / 65536 % 256 = (p.size : Int) / 65536 by omega, show (p.size : Int) / 256 % 256 = (p.size : Int) / 256 by omega]
    rw [hw4] at hnext
    obtain ⟨X, hX⟩ := zbd [N / 16777216, N / 65536, N / 256, N % 256] (fun z hz => by simp at hz; omega)
    have hcv : Sem.run Tryz.prog (convert 81 9 (.slice (some ⟨wr.heap.size, 0, none⟩) 4 4)) (wr.alloc (.cells #[.int .u8 (N / 16777216), .int .u8 (N / 65536), .int .u8 (N / 256), .int .u8 (N % 256)] 5)) = .ok (.string X) (wr.alloc (.cells #[.int .u8 (N / 16777216), .int .u8 (N / 65536), .int .u8 (N / 256), .int .u8 (N % 256)] 5)) :=
     zb2 _ _ 4 4 X (by rw [<- z4, hX]; rfl) (by rw [hX]; exact BytesI.blk (Blk.new wr 5 (arrV .u8 [N / 16777216, N / 65536, N / 256, N % 256])) (fun j hj => by
      refine ⟨by simpa using hj, by rw [Nat.zero_add]⟩))
    have hXs : X.size = 4 := by rw [<- z4, hX]; rfl
    have c1 : ∀ w, (Op.stringOp .add X p).run Tryz.prog w = .ok (.string (X ++ p)) w := fun w => ze8 w X p (by omega) (by omega)
    have hs2 : (X ++ p).size = 4 + p.size := by rw [ByteArray.size_append]; omega
    have hxp : xsOf (X ++ p) = [N / 16777216, N / 65536, N / 256, N % 256] ++ xsOf p := by rw [zby, hX]
    rw [<- hxp, <- zby] at hnext
    obtain ⟨Y, hY⟩ : ∃ Y, Y = X ++ p := ⟨_, rfl⟩
    rw [<- hY] at hs2 hnext c1
    have c2 : ∀ w, (Op.stringOp .add S Y).run Tryz.prog w = .ok (.string (S ++ Y)) w := fun w => ze8 w S Y (by omega) (by omega)
    obtain ⟨Z, hZ⟩ : ∃ Z, Z = S ++ Y := ⟨_, rfl⟩
    rw [<- hZ] at c2 hnext
    have hN0 : 0 <= N /\ N <= 10000 := by omega
    have HI := hQ_ (aQ hI (aQ hlt hnext))
    have HK := hQ_ hK
    clear hI hlt hnext hK hn hP hn64 hps hcell hp hpm hkI hgd hSle hN hw4 hX hXs hs2 hxp hY hZ hS hk
    go_wp2_with fail
    go_roundw
    case rel =>
     obtain ⟨hI, hlt, hnext⟩ := HI.out
     have := HX.out.2.2.1
     exact ⟨k + 1, Z, by omega, by rw [hI, w64 _ ⟨by omega, by omega⟩]; rfl, rfl, hnext.symm, za HK.out (World.grownBy_alloc wr _ none)⟩
    case measure => obtain ⟨hI, hlt, _⟩ := HI.out; have := HX.out.2.2.1; simp only [intOf]; rw [w64 _ ⟨by omega, by omega⟩]; omega
  · have d1 : decide (I < (n : Int)) = false := by simp; omega
    obtain rfl : k = n := by omega
    rw [List.take_of_length_le (by rw [List.length_map, HX.out.1]; exact Nat.le_refl _)] at hS
    have HS := hQ_ (aQ hS hK)
    clear hI hlt hk hS hK
    go_wp2_with fail
    go_ret
    exact ⟨S, rfl, HS.out.1, HS.out.2⟩
end
section
theorem fill_set (F : List Int) (m k : Nat) (hl : F.length = m) (hk : k < m) : (F.take k ++ List.replicate (m - k) 0).set k (F.getD k 0) = F.take (k + 1) ++ List.replicate (m - (k + 1)) 0 := by
 have hlk : (F.take k).length = k := by rw [List.length_take]; omega
 obtain ⟨q, hq⟩ : ∃ q, m - k = q + 1 := ⟨m - k - 1, by omega⟩
 rw [List.set_append_right _ _ (by omega), hlk, Nat.sub_self, hq, show m - (k + 1) = q by omega, List.replicate_succ, List.set_cons_zero, List.take_add_one, List.getD, List.getElem?_eq_getElem (by omega)]
 simp only [Option.getD_some, Option.toList_some, List.append_assoc, List.singleton_append]
theorem rof_isB (w : World) (a0 : Int) (A : Option Addr) (n c : Nat) (ts : List ByteArray) (hn : ts.length = n) (hP : TextsI w A ts) (hn64 : n <= 64) (hps : ∀ t ∈ ts, t.size <= 10000) (htot : (vz a0 (ts.map xsOf)).length <= 50000) :
    Calls Tryz.prog 31 #[.int .i64 a0, .slice A n c] w fun e w' => e = .returned (.agg (arrV .u8 (ofS a0 (ts.map xsOf)))) /\ w.grownBy w' none := by
 obtain ⟨Z32, hZ32⟩ : ∃ Z, Z = arrV .u8 (List.replicate 32 0) := ⟨_, rfl⟩
 obtain ⟨Z16, hZ16⟩ : ∃ Z, Z = arrV .u8 (List.replicate 16 0) := ⟨_, rfl⟩
 have hz32 : ∀ w, Sem.run Tryz.prog (zeroValue 113) w = .ok (.agg Z32) w := fun w => by rw [hZ32]; exact zrun w (by kernel_rfl)
 have hz16 : ∀ w, Sem.run Tryz.prog (zeroValue 24) w = .ok (.agg Z16) w := fun w => by rw [hZ16]; exact zrun w (by kernel_rfl)
 have HZ := hQ_ (show Z16 = arrV .u8 (List.replicate 16 0) /\ Z32.size = 32 /\ Z16.size = 16 /\ (Z16.all fun v => v.oneCell') = true /\ (Tryz.prog.info? 24).map (·.size) = some Z16.size from
  ⟨hZ16, by rw [hZ32]; rfl, by rw [hZ16]; rfl, by rw [hZ16]; exact zu _ _, by rw [hZ16]; kernel_rfl⟩)
 have HX := hQ_ (aQ hn (aQ hP (aQ hn64 (aQ hps htot))))
 clear hZ32 hZ16 hn hP hn64 hps htot
 go_enter Tryz.func31, Tryz.ntmps31
 go_wp2_with fail
 obtain ⟨w0, hw0⟩ : ∃ w0, w0 = w.alloc (.cells Z16 24) := ⟨_, rfl⟩
 rw [<- hw0]
 have HG0 := hQ_ (show w.grownBy w0 none by rw [hw0]; exact gQ)
 have HB0 := hQ_ (show Blk w0 w.heap.size 24 Z16 by rw [hw0]; exact Blk.new _ _ _)
 clear hw0
 refine (framed_is w0 a0 A n c ts HX.out.1 (HX.out.2.1.grown HG0.out) HX.out.2.2.1 HX.out.2.2.2.1).mono ?_
 rintro e w1 ⟨s, rfl, hs, hk1⟩
 have HS := hQ_ hs
 have HG1 := hQ_ (za HG0.out hk1)
 have HB1 := hQ_ (HB0.out.grown hk1 (by simp))
 clear hs hk1 HG0 HB0
 go_wp2_with fail
 refine (rsum_isK20 w1 s (by rw [<- z4, HS.out]; exact HX.out.2.2.2.2)).mono ?_
 rintro e w2 ⟨rfl, hk2⟩
 rw [HS.out]
 obtain ⟨F, hF⟩ : ∃ F, F = hashS (vz a0 (ts.map xsOf)) := ⟨_, rfl⟩
 obtain ⟨ds, hds⟩ : ∃ ds, ds = arrV .u8 F := ⟨_, rfl⟩
 rw [<- hF, <- hds]
 have hFl : F.length = 32 := by rw [hF, hashS_length]
 have hO : ofS a0 (ts.map xsOf) = F.take 16 := by rw [of_hash, hF]
 have hsz : ds.size = 32 := by rw [hds, zf, hFl]
 have HI3 := hQ_ (show (Tryz.prog.info? 113).map (·.size) = some ds.size by rw [hsz]; exact info32)
 have HS3 := hQ_ (aQ hsz (show (ds.all fun x => x.oneCell') = true by rw [hds]; exact zu _ _))
 have HF := hQ_ (aQ hds (aQ hFl hO))
 have HG2 := hQ_ (za HG1.out hk2)
 have HB2 := hQ_ (HB1.out.grown hk2 (by simp))
 clear hsz hds hk2 HG1 HB1 hF hFl hO HS
 go_wp2_with (first
  | (refine yi rfl 24 #[] rfl (.agg Z16) (by rw [HZ.out.1]; kernel_rfl) ?_)
  | (refine wpList_store_row rfl 113 _ _ rfl w2.heap.size ds rfl rfl 113 _ (heap_alloc_new w2 _) HI3.out (by rw [HS3.out.1]; exact HZ.out.2.1) HS3.out.2 ?_
     obtain ⟨w3, hw3⟩ : ∃ w3, w3 = (w2.alloc (.cells Z32 113)).setRow w2.heap.size ds := ⟨_, rfl⟩
     rw [<- hw3]
     have HW3 := hQ_ hw3
     clear hw3)
  | (refine wpList_store_row rfl 24 _ _ rfl w3.heap.size Z16 rfl rfl 24 _ (heap_alloc_new w3 _) HZ.out.2.2.2.2 rfl HZ.out.2.2.2.1 ?_
     obtain ⟨w4, hw4⟩ : ∃ w4, w4 = (w3.alloc (.cells Z16 24)).setRow w3.heap.size Z16 := ⟨_, rfl⟩
     rw [<- hw4]
     have HW4 := hQ_ hw4
     clear hw4))
 obtain ⟨gs, hgs⟩ : ∃ gs, gs = w2.heap.size := ⟨_, rfl⟩
 obtain ⟨gd, hgd⟩ : ∃ gd, gd = w3.heap.size := ⟨_, rfl⟩
 rw [<- hgs, <- hgd]
 have s3 : gd = gs + 1 := by rw [hgd, HW3.out, setRow_size, World.size_alloc, hgs]
 have hlt : w.heap.size < gs := by rw [hgs]; exact HB2.out.lt
 have b3 : Blk w3 gs 113 ds := by rw [HW3.out, hgs]; exact (Blk.new w2 _ Z32).row ds
 have r3 : Blk w3 w.heap.size 24 Z16 := by rw [HW3.out]; exact (HB2.out.alloc _).farRow (by omega) _
 have k3 : w.grownBy w3 none := by rw [HW3.out]; exact zc (za HG2.out (World.grownBy_alloc w2 _ none)) (.inl (by omega)) _
 have b4 : Blk w4 gs 113 ds := by rw [HW4.out]; exact (b3.alloc _).farRow (by omega) _
 have r4 : Blk w4 w.heap.size 24 Z16 := by rw [HW4.out]; exact (r3.alloc _).farRow (by omega) _
 have k4 : w.grownBy w4 none := by rw [HW4.out]; exact zc (za k3 (World.grownBy_alloc w3 _ none)) (.inl (by omega)) _
 have d4 : Blk w4 gd 24 (arrV .u8 (F.take 0 ++ List.replicate (16 - 0) 0)) := by rw [HW4.out, hgd]; simp only [List.take_zero, List.nil_append, Nat.sub_zero]; rw [<- HZ.out.1]; exact (Blk.new w3 _ Z16).row Z16
 have H4 := hQ_ (aQ d4 (aQ b4 (aQ r4 k4)))
 have HN := hQ_ (aQ s3 hlt)
 clear hgs hgd s3 hlt b3 r3 k3 b4 r4 k4 d4 HG2 HB2 HI3 HS3
 go_loopw [13] (fun i wr => ∃ k : Nat, k <= 16 /\ i = .int .i64 (k : Int) /\ Blk wr gd 24 (arrV .u8 (F.take k ++ List.replicate (16 - k) 0)) /\ Blk wr gs 113 ds /\ Blk wr w.heap.size 24 Z16 /\ w.grownBy wr none) (fun i _ => 16 - (intOf i).toNat)
 case atStart => exact ⟨0, by omega, rfl, H4.out⟩
 case round =>
  obtain ⟨k, hk, hi, hD, hS, hR, hG⟩ := hrel
  obtain ⟨K, hK⟩ : ∃ K : Int, K = (k : Int) := ⟨_, rfl⟩
  rw [<- hK] at hi
  subst hi
  by_cases hlt : k < 16
  · have d2 : decide (K < 16) = true := by simp; omega
    have hx : 0 <= K /\ K < 16 := by omega
    have hy : 0 <= K /\ K < 32 := by omega
    have hln : (F.take k ++ List.replicate (16 - k) 0).length = 16 := by have := HF.out.2.1; rw [List.length_append, List.length_take, List.length_replicate]; omega
    have cs : wr.cell? ⟨gs, K.toNat, none⟩ = some (.int .u8 (F.getD K.toNat 0)) := by rw [hS.cell, HF.out.1]; exact yr (by rw [HF.out.2.1]; omega)
    have cd : wr.cell? ⟨gd, K.toNat, none⟩ = some (.int .u8 ((F.take k ++ List.replicate (16 - k) 0).getD K.toNat 0)) := by rw [hD.cell]; exact yr (by omega)
    have fd := hD.frozen K.toNat
    have hnx : (F.take k ++ List.replicate (16 - k) 0).set K.toNat (F.getD K.toNat 0) = F.take (k + 1) ++ List.replicate (16 - (k + 1)) 0 := by
     rw [show K.toNat = k by omega]
     have := fill_set (F.take 16) 16 k (by rw [List.length_take, HF.out.2.1]; rfl) hlt
     rw [List.take_take, List.take_take, Nat.min_eq_left (by omega), Nat.min_eq_left (by omega)] at this
     rw [<- this]
     congr 1
     simp [List.getD, hlt]
    obtain ⟨y, hyy⟩ : ∃ y, y = F.getD K.toNat 0 := ⟨_, rfl⟩
    obtain ⟨z, hzz⟩ : ∃ z, z = (F.take k ++ List.replicate (16 - k) 0).getD K.toNat 0 := ⟨_, rfl⟩
    rw [<- hyy] at cs hnx
    rw [<- hzz] at cd
    have HK := hQ_ (aQ hK (aQ hlt (aQ hnx (aQ hD (aQ hS (aQ hR hG))))))
    clear hK hlt hnx hD hS hR hG hyy hzz hln hk
    go_wp2_with fail
    go_roundw
    case rel =>
     obtain ⟨hK, hlt, hnx, hD, hS, hR, hG⟩ := HK.out
     obtain ⟨s3, hl⟩ := HN.out
     refine ⟨k + 1, by omega, by rw [hK]; rfl, ?_, hS.far (p := ⟨gd, K.toNat, none⟩) (by dsimp only; omega) _, hR.far (p := ⟨gd, K.toNat, none⟩) (by dsimp only; omega) _, ye hG (p := ⟨gd, K.toNat, none⟩) (.inl (by dsimp only; omega)) _⟩
     rw [<- hnx]
     have := hD.set K.toNat (.int .u8 y)
     rwa [zcb] at this
    case measure => obtain ⟨hK, hlt, _⟩ := HK.out; simp [intOf]; omega
  · obtain rfl : k = 16 := by omega
    have d2 : decide (K < 16) = false := by simp; omega
    obtain ⟨c6, hc6⟩ : ∃ c6, c6 = arrV .u8 (ofS a0 (ts.map xsOf)) := ⟨_, rfl⟩
    rw [Nat.sub_self, List.replicate_zero, List.append_nil, <- HF.out.2.2, <- hc6] at hD
    have hs16 : c6.size = 16 := by rw [hc6, zf, zag]
    have HI6 := hQ_ (show (Tryz.prog.info? 24).map (·.size) = some c6.size by rw [hs16]; kernel_rfl)
    have HS6 := hQ_ (aQ hs16 (aQ (show (c6.all fun x => x.oneCell') = true by rw [hc6]; exact zu _ _) hc6))
    have HD := hQ_ hD
    have HRR := hQ_ hR
    have HG := hQ_ hG
    clear hK hlt hD hS hR hG hs16 hc6 hk
    go_wp2_with (first
     | (refine wpList_load_row rfl 24 _ rfl gd rfl 24 c6 (0, 0) _ HD.out Tryz.underlying24 rfl HI6.out ?_)
     | (refine wpList_store_row rfl 24 _ _ rfl w.heap.size c6 rfl rfl 24 _ HRR.out HI6.out (by rw [HS6.out.1]; exact HZ.out.2.2.1) HS6.out.2.1 ?_))
    refine bodyPost_ret (z5 rfl _ _ _ ⟨w.heap.size, 0, none⟩ (.agg c6) rfl (run_loadVar_row _ w.heap.size 24 24 c6 (0, 0) _ (HRR.out.row c6) Tryz.underlying24 rfl HI6.out)) rfl ?_
    exact ⟨by rw [HS6.out.2.2], zc HG.out (.inl (Nat.le_refl _)) c6⟩
theorem rof_is (w : World) (a0 : Int) (A : Option Addr) (n c : Nat) (ts : List ByteArray) (hn : ts.length = n) (hP : TextsI w A ts) (hn64 : n <= 64) (hps : ∀ t ∈ ts, t.size <= 2000) (htot : (vz a0 (ts.map xsOf)).length <= 50000) :
    Calls Tryz.prog 31 #[.int .i64 a0, .slice A n c] w fun e w' => e = .returned (.agg (arrV .u8 (ofS a0 (ts.map xsOf)))) /\ w.grownBy w' none := rof_isB w a0 A n c ts hn hP hn64 (fun t ht => by have := hps t ht; omega) htot
end
end Go.Proofs.YtigafnbofmiknaaGreatDoor
