/-
  Several texts in one: EpP, Pw.
-/
import Derived.Test.YtpdfkgmgmndcfaaDoorM20A
import Derived.Test.YtpdfkgmgmndcfaaDoorM20e
import Derived.Deep.RegionHeld3
import Derived.BigQuiet
import Derived.Deep.MidRow
/-
  An epoch's first block, as letters: what it writes.
-/
namespace Go.Proofs.YtpdfkgmgmndcfaaDoor
open Go.RowKit

/-- An epoch's first block. -/
def genB (e : Int) (p : List Int) : Bk := ⟨e, 0, p, ⟨0, 0, List.replicate 16 0, none, 0, []⟩, none, 0, [], none, 0, []⟩
theorem genB_at (w : World) (e : Int) {p : List Int} (hp : isDig p) : (genB e p).At w :=
  ⟨hp, ⟨zeroC_dig, fun h => absurd rfl h, fun _ hs => absurd hs List.not_mem_nil⟩, ⟨fun h => absurd rfl h, fun _ hs => absurd hs List.not_mem_nil⟩, fun h => absurd rfl h, fun _ hs => absurd hs List.not_mem_nil⟩
theorem sPut_zero {most : Int} (hm : 0 ≤ most) (f : WSt → WSt) (s : WSt) : sPut 0 most f s = f (sNum 0 1 s) := by
  unfold sPut
  rw [if_neg (by omega)]
  rfl
/-- No error so far, so many bytes. -/
def Good (s : WSt) (n : Nat) : Prop := s.1 = 0 ∧ s.2.length = n
theorem good_fix {s : WSt} {n m : Nat} (h : Good s n) (x : List UInt8) (hm : x.length = m) : Good (sFix x s) (n + m) := by
  obtain ⟨e, l⟩ := s
  obtain ⟨rfl, rfl⟩ := h
  subst hm
  exact ⟨rfl, List.length_append⟩
theorem good_num {s : WSt} {n : Nat} (h : Good s n) {e z : Int} {k : Nat} (hz : z = (k : Int)) (h1 : 1 ≤ k) (h8 : k ≤ 8) (h0 : 0 ≤ e) (he : e.toNat < 256 ^ k) : Good (sNum e z s) (n + k) := by
  subst hz
  obtain ⟨m, rfl⟩ := Int.eq_ofNat_of_zero_le h0
  have hb : badNum (m : Int) (k : Int) = false := by
    rw [bad_false_ou h1 h8, Nat.div_eq_of_lt (by simpa using he)]
    rfl
  unfold sNum
  rw [if_neg (by rw [hb]; simp)]
  exact good_fix h _ (by rw [be_length]; simp)
/-- What the document's words write of such a block. -/
def genS (e : Int) (p : List Int) (s : WSt) : WSt := sNum 0 1 (sNum 0 1 (sNum 0 1 (sDig (List.replicate 16 0) (sNum 0 6 (sNum 0 4 (sDig p (sNum 0 6 (sNum e 4 s))))))))
theorem genS_is (e : Int) (p : List Int) (s : WSt) : sBk (genB e p) s = genS e p s := by
  show sPut 0 7 (sAll sVd []) (sPut 0 4 (sAll sTx []) (sPut 0 7 (sAll sSg []) (sDig (List.replicate 16 0) (sTurn 0 0 (sDig p (sTurn e 0 s)))))) = _
  rw [sPut_zero (by omega), sPut_zero (by omega), sPut_zero (by omega), sAll_nil, sAll_nil, sAll_nil]
  unfold genS sTurn
  rfl
theorem gen_ok {e : Int} {p : List Int} (hp : p.length = 16) (h0 : 0 ≤ e) (h : e < 4294967296) : (bkS (genB e p)).1 = 0 ∧ (bkS (genB e p)).2.length = 55 := by
  unfold bkS
  rw [genS_is]
  unfold genS sDig
  have h0' : Good ((0, []) : WSt) 0 := ⟨rfl, rfl⟩
  have h1 := good_num h0' (e := e) (z := 4) (k := 4) rfl (by omega) (by omega) h0 (by omega)
  have h2 := good_num h1 (e := 0) (z := 6) (k := 6) rfl (by omega) (by omega) (by omega) (by decide)
  have h3 := good_fix h2 (dgB p) (by rw [dgB_length, hp])
  have h4 := good_num h3 (e := 0) (z := 4) (k := 4) rfl (by omega) (by omega) (by omega) (by decide)
  have h5 := good_num h4 (e := 0) (z := 6) (k := 6) rfl (by omega) (by omega) (by omega) (by decide)
  have h6 := good_fix h5 (dgB (List.replicate 16 0)) (m := 16) (by rw [dgB_length]; rfl)
  have h7 := good_num h6 (e := 0) (z := 1) (k := 1) rfl (by omega) (by omega) (by omega) (by decide)
  have h8 := good_num h7 (e := 0) (z := 1) (k := 1) rfl (by omega) (by omega) (by omega) (by decide)
  exact good_num h8 (e := 0) (z := 1) (k := 1) rfl (by omega) (by omega) (by omega) (by decide)
theorem gen_add (e : Int) (p : List Int) (hp : p.length = 16) : (bkS (genB e p)).2.length ≤ 8486 := by
  have := adds_bk (b := genB e p) hp (by simp [genB]) (fun x hx => absurd hx List.not_mem_nil) (fun x hx => absurd hx List.not_mem_nil) (0, [])
  simpa [bkS] using this
/-- Its cells, whatever cells the digest has. -/
def genV (e : Int) (D : Array Value) : Array Value := #[.int .i64 e, .int .i64 0] ++ (D ++ (#[.int .i64 0, .int .i64 0] ++ (arrV .u8 (List.replicate 16 0) ++ #[.slice none 0 0]) ++ #[.slice none 0 0, .slice none 0 0]))
theorem genV_is (e : Int) (p : List Int) : (genB e p).val = genV e (arrV .u8 p) := rfl
end Go.Proofs.YtpdfkgmgmndcfaaDoor
/-
  Validators as letters: their cells, rows of them; Find.
-/
namespace Go.Proofs.YtpdfkgmgmndcfaaDoor
open Go.RowKit

theorem eqD (w : World) (l1 l2 : List Int) (h1 : l1.length = 16) (h2 : l2.length = 16) : Sem.run Tryd.prog (Op.equalIn 10000 24 (.agg (arrV .u8 l1)) (.agg (arrV .u8 l2))) w = .ok (decide (l1 = l2)) w :=
  eq_arr w 9998 Tryd.underlying24 (by kernel_rfl) Tryd.underlying5 (by kernel_rfl) (by kernel_rfl) l1 l2 h1 h2

theorem vd_range {w : World} {b o : Nat} {x : Vd} (h : w.rangeAt b o x.cells) : w.rangeAt b o (x.key.map (Value.int .u8)) := fun j v hv => h j v (by
  have hj := (List.getElem?_eq_some_iff.1 hv).1
  rw [Vd.cells, List.getElem?_append_left hj]; exact hv)
theorem vd_power {w : World} {b o : Nat} {x : Vd} (hx : x.key.length = 16) (h : w.rangeAt b o x.cells) : w.cell? ⟨b, o + 16, none⟩ = some (.int .i64 x.p) := h 16 _ (by
  rw [Vd.cells, List.getElem?_append_right (by simp [hx])]; simp [hx])
theorem range_new (w : World) (cs : List Value) (t : TypeId) : (w.alloc (.cells cs.toArray t)).rangeAt w.heap.size 0 cs := fun j v hv => by
  rw [Nat.zero_add, (Blk.new w t cs.toArray).cell]; simpa using hv
theorem keySize {l : List Int} (h : l.length = 16) : (Tryd.prog.info? 24).map (·.size) = some (l.map (Value.int .u8)).length := by rw [List.length_map, h]; kernel_rfl
theorem vdSize {x : Vd} (h : x.key.length = 16) : (Tryd.prog.info? 45).map (·.size) = some x.cells.length := by rw [Vd.cells_length h]; kernel_rfl

set_option maxRecDepth 100000 in
set_option maxHeartbeats 1000000 in
theorem find1_is (w : World) (x : Vd) (hx : x.key.length = 16) (B : Nat) (key : List Int) (hk : key.length = 16) (hB : w.rangeAt B 0 (key.map (Value.int .u8))) :
    Calls Tryd.prog 23 #[x.val, .pointer (some ⟨B, 0, none⟩)] w fun e w' => e = .returned (.bool (decide (x.key = key))) ∧ w.grownBy w' none := by
  obtain ⟨kx, hkx⟩ : ∃ kx, kx = x.key.map (Value.int .u8) := ⟨_, rfl⟩
  obtain ⟨ky, hky⟩ : ∃ ky, ky = key.map (Value.int .u8) := ⟨_, rfl⟩
  have heq : ∀ w, Sem.run Tryd.prog (Op.equalIn 10000 24 (.agg kx.toArray) (.agg ky.toArray)) w = .ok (decide (x.key = key)) w := fun w => by rw [hkx, hky]; exact eqD w x.key key hx hk
  have i1 := keySize hx
  have i2 := keySize hk
  rw [← hkx] at i1
  rw [← hky] at i2 hB
  have r1 := vd_range (range_new w x.cells 45)
  rw [← hkx] at r1
  have r2 : (w.alloc (.cells x.cells.toArray 45)).rangeAt B 0 ky := range_kept hB (World.grownBy_alloc w _ none)
  obtain ⟨r, hr⟩ : ∃ r, r = decide (x.key = key) := ⟨_, rfl⟩
  rw [← hr] at heq ⊢
  have HG := Lib.hid (World.grownBy_alloc w (.cells x.cells.toArray 45) none)
  have HI := Lib.hid (And.intro i1 i2)
  have HR := Lib.hid (And.intro r1 r2)
  clear i1 i2 r1 r2 hB hkx hky hr hx hk
  go_enter Tryd.func23, Tryd.ntmps23
  go_wp2_with (first
    | (refine wpList_load_mid rfl 24 _ rfl w.heap.size 0 rfl kx _ HR.out.1 Tryd.underlying24 rfl HI.out.1 ?_)
    | (refine wpList_load_mid rfl 24 _ rfl B 0 rfl ky _ HR.out.2 Tryd.underlying24 rfl HI.out.2 ?_))
  go_ret
  exact ⟨rfl, HG.out⟩

/-- The first place of a key. -/
def findS (key : List Int) : List Vd → Int
  | [] => -1
  | x :: V => if x.key = key then 0 else if findS key V = -1 then -1 else findS key V + 1

def keysOk (V : List Vd) : Prop := ∀ x ∈ V, x.key.length = 16
theorem findS_nonneg (key : List Int) : ∀ V : List Vd, findS key V = -1 ∨ (0 ≤ findS key V ∧ findS key V < V.length)
  | [] => .inl rfl
  | x :: V => by
    rw [findS]
    by_cases h : x.key = key
    · rw [if_pos h]; right; simp
    · rw [if_neg h]
      rcases findS_nonneg key V with h1 | h1
      · rw [if_pos h1]; exact .inl rfl
      · rw [if_neg (by omega)]; right; simp only [List.length_cons]; omega
/-- The first k aren't it: it is found from there on. -/
theorem findS_drop (key : List Int) : ∀ (V : List Vd) (k : Nat), (∀ j (h : j < V.length), j < k → V[j].key ≠ key) → k ≤ V.length → findS key V = if findS key (V.drop k) = -1 then -1 else findS key (V.drop k) + k
  | V, 0, _, _ => by simp
  | [], k + 1, _, hk => by simp at hk
  | x :: V, k + 1, h, hk => by
    have h0 : x.key ≠ key := h 0 (by simp) (by omega)
    have ih := findS_drop key V k (fun j hj hjk => h (j + 1) (by simpa using hj) (by omega)) (by simpa using hk)
    rw [findS, if_neg h0, List.drop_succ_cons, ih]
    rcases findS_nonneg key (V.drop k) with e | ⟨e1, e2⟩
    · simp [e]
    · rw [if_neg (by omega), if_neg (by omega)]; omega
theorem findS_at {key : List Int} {V : List Vd} {k : Nat} (hk : k < V.length) (h : ∀ j (h : j < V.length), j < k → V[j].key ≠ key) (e : V[k].key = key) : findS key V = k := by
  rw [findS_drop key V k h (by omega), List.drop_eq_getElem_cons hk, findS, if_pos e]; simp
theorem findS_none {key : List Int} {V : List Vd} (h : ∀ j (h : j < V.length), V[j].key ≠ key) : findS key V = -1 := by
  rw [findS_drop key V V.length (fun j hj _ => h j hj) (by omega)]; simp [findS]

set_option maxRecDepth 100000 in
set_option maxHeartbeats 1000000 in
theorem indexf_is (w : World) (A : Option Addr) (c : Nat) (V : List Vd) (hV : VdsAt w A V) (ok : keysOk V) (hl : V.length < 1000) (B : Nat) (key : List Int) (hk : key.length = 16) (hB : w.rangeAt B 0 (key.map (Value.int .u8))) :
    Calls Tryd.prog 22 #[.slice A V.length c, .func (.func 23) #[] #[.pointer (some ⟨B, 0, none⟩)]] w fun e w' => e = .returned (.int .i64 (findS key V)) ∧ w.grownBy w' none := by
  go_enter Tryd.func22, Tryd.ntmps22
  go_wp2_with fail
  go_loopw [8] (fun i wr => ∃ k : Nat, k ≤ V.length ∧ i = .int .i64 (k : Int) ∧ (∀ j (h : j < V.length), j < k → V[j].key ≠ key) ∧ w.grownBy wr none) (fun i _ => V.length - (intOf i).toNat)
  case atStart => exact ⟨0, by omega, rfl, fun j _ h => absurd h (by omega), World.grownBy.refl w none⟩
  case round =>
    obtain ⟨k, hkl, hi, hno, hK⟩ := hrel
    obtain ⟨I, hI⟩ : ∃ I : Int, I = (k : Int) := ⟨_, rfl⟩
    rw [← hI] at hi
    subst hi
    by_cases hlt : k < V.length
    · have hne : V ≠ [] := by rintro rfl; simp at hlt
      obtain ⟨b, off, rfl, hc⟩ := hV hne
      have d1 : decide (I < (V.length : Int)) = true := by simp; omega
      have hIV : I < (V.length : Int) := by omega
      have hI0 : 0 ≤ I ∧ I < 1000 := by omega
      have hkI : I.toNat = k := by omega
      have r1 := range_kept (hc k hlt) hK
      have hx := ok _ (List.getElem_mem hlt)
      obtain ⟨x, hxe⟩ : ∃ x, x = V[k] := ⟨_, rfl⟩
      rw [← hxe] at r1 hx
      rw [← hkI] at r1
      have i1 := vdSize hx
      have HR := Lib.hid (And.intro r1 (show ∃ h : k < V.length, x = V[k] from ⟨hlt, hxe⟩))
      have HI := Lib.hid (And.intro i1 hx)
      have HN := Lib.hid (And.intro hno (And.intro hK (And.intro hl hI)))
      clear r1 hxe i1 hx hno hc ok hne hK hV hkl hl hI hkI
      go_wp2_with (refine wpList_load_mid rfl 45 _ rfl b (off + I.toNat * 17) rfl x.cells _ HR.out.1 Tryd.underlying45 rfl HI.out.1 ?_)
      refine (find1_is _ x HI.out.2 B key hk (range_kept hB HN.out.2.1)).mono ?_
      rintro e w1 ⟨rfl, hk1⟩
      by_cases he : x.key = key
      · rw [show decide (x.key = key) = true by simpa using he]
        have HE := Lib.hid he
        clear he
        go_wp2_with fail
        go_ret
        obtain ⟨h1, h3, h2⟩ := HR.out
        refine ⟨?_, grown_trans HN.out.2.1 hk1⟩
        rw [findS_at h3 HN.out.1 (by rw [← h2]; exact HE.out), ← HN.out.2.2.2]
        rfl
      · rw [show decide (x.key = key) = false by simpa using he]
        have HE := Lib.hid he
        clear he
        go_wp2_with fail
        go_roundw
        case rel =>
          obtain ⟨h1, h3, h2⟩ := HR.out
          refine ⟨k + 1, by omega, by rw [HN.out.2.2.2]; rfl, fun j hj hjk => ?_, grown_trans HN.out.2.1 hk1⟩
          by_cases hjk' : j < k
          · exact HN.out.1 j hj hjk'
          · obtain rfl : j = k := by omega
            rw [← h2]; exact HE.out
        case measure => have := HN.out.2.2.2; simp [intOf]; omega
    · have d1 : decide (I < (V.length : Int)) = false := by simp; omega
      have HN := Lib.hid (And.intro hno (And.intro hK (And.intro hkl hlt)))
      clear hno hK hkl hlt hI
      go_wp2_with fail
      go_ret
      refine ⟨?_, HN.out.2.1⟩
      rw [findS_none (fun j hj => HN.out.1 j hj (by have := HN.out.2.2.2; omega))]
      rfl

set_option maxHeartbeats 1000000 in
theorem find_is (w : World) (A : Option Addr) (c : Nat) (V : List Vd) (hV : VdsAt w A V) (ok : keysOk V) (hl : V.length < 1000) (key : List Int) (hk : key.length = 16) :
    Calls Tryd.prog 15 #[.slice A V.length c, .agg (arrV .u8 key)] w fun e w' => e = .returned (.int .i64 (findS key V)) ∧ w.grownBy w' none := by
  obtain ⟨ky, hky⟩ : ∃ ky, ky = arrV .u8 key := ⟨_, rfl⟩
  rw [← hky]
  have HK := Lib.hid hky
  have hR : ∀ W, (w.alloc (.cells ky 24)).grownBy W none → W.rangeAt w.heap.size 0 (key.map (Value.int .u8)) := fun W hW => by
    refine range_kept ?_ hW
    rw [hky]
    exact range_new w (key.map (Value.int .u8)) 24
  have HW := Lib.hid hR
  clear hky hR
  have HG := Lib.hid (World.grownBy_alloc w (.cells ky 24) none)
  go_enter Tryd.func15, Tryd.ntmps15
  go_wp2_with fail
  refine (indexf_is _ A c V (hV.grown HG.out) ok hl w.heap.size key hk (HW.out _ (World.grownBy.refl _ _))).mono ?_
  rintro e w1 ⟨rfl, hk1⟩
  go_wp2_with fail
  go_ret
  exact ⟨rfl, grown_trans HG.out hk1⟩
end Go.Proofs.YtpdfkgmgmndcfaaDoor
