/-
  Several texts in one: EpP, Pw, PwC, ArgI.
-/
import Derived.Test.YtmoebkdbnldbdaaGreatDoorM20pn
import Derived.Test.YtmoebkdbnldbdaaGreatDoorM20pc
import Derived.Deep.RegionHeld3
import Derived.BigQuiet
import Derived.Deep.MidRow
import Derived.Test.YtmoebkdbnldbdaaGreatDoorM20pa
import Derived.Test.YtmoebkdbnldbdaaGreatDoorM20ph
/-
  An epoch's first block, as letters: what it writes.
-/
namespace Go.Proofs.YtmoebkdbnldbdaaGreatDoor
open Go.RowKit

/-- An epoch's first block. -/
def genB (e : Int) (p : List Int) : Bk := ⟨e, 0, p, ⟨0, 0, List.replicate 16 0, none, 0, []⟩, none, 0, [], none, 0, []⟩
theorem genB_at (w : World) (e : Int) {p : List Int} (hp : isDig p) : (genB e p).At w :=
  ⟨hp, ⟨zeroC_dig, fun h => absurd rfl h, fun _ hs => absurd hs List.not_mem_nil⟩, ⟨fun h => absurd rfl h, fun _ hs => absurd hs List.not_mem_nil⟩, fun h => absurd rfl h, fun _ hs => absurd hs List.not_mem_nil⟩
theorem sPut_zero {most : Int} (hm : 0 ≤ most) (f : WSt → WSt) (s : WSt) : sPut 0 most f s = f (sNum 0 1 s) := by
  unfold sPut
  rw [if_neg (by omega)]
  rfl
/-- No error so far, so many bytes. -/
def Good (s : WSt) (n : Nat) : Prop := s.1 = 0 ∧ s.2.length = n
theorem good_fix {s : WSt} {n m : Nat} (h : Good s n) (x : List UInt8) (hm : x.length = m) : Good (sFix x s) (n + m) := by
  obtain ⟨e, l⟩ := s
  obtain ⟨rfl, rfl⟩ := h
  subst hm
  exact ⟨rfl, List.length_append⟩
theorem good_num {s : WSt} {n : Nat} (h : Good s n) {e z : Int} {k : Nat} (hz : z = (k : Int)) (h1 : 1 ≤ k) (h8 : k ≤ 8) (h0 : 0 ≤ e) (he : e.toNat < 256 ^ k) : Good (sNum e z s) (n + k) := by
  subst hz
  obtain ⟨m, rfl⟩ := Int.eq_ofNat_of_zero_le h0
  have hb : badNum (m : Int) (k : Int) = false := by
    rw [bad_false_ou h1 h8, Nat.div_eq_of_lt (by simpa using he)]
    rfl
  unfold sNum
  rw [if_neg (by rw [hb]; simp)]
  exact good_fix h _ (by rw [be_length]; simp)
/-- What the document's words write of such a block. -/
def genS (e : Int) (p : List Int) (s : WSt) : WSt := sNum 0 1 (sNum 0 1 (sNum 0 1 (sDig (List.replicate 16 0) (sNum 0 6 (sNum 0 4 (sDig p (sNum 0 6 (sNum e 4 s))))))))
theorem genS_is (e : Int) (p : List Int) (s : WSt) : sBk (genB e p) s = genS e p s := by
  show sPut 0 7 (sAll sVd []) (sPut 0 4 (sAll sTx []) (sPut 0 7 (sAll sSg []) (sDig (List.replicate 16 0) (sTurn 0 0 (sDig p (sTurn e 0 s)))))) = _
  rw [sPut_zero (by omega), sPut_zero (by omega), sPut_zero (by omega), sAll_nil, sAll_nil, sAll_nil]
  unfold genS sTurn
  rfl
theorem gen_ok {e : Int} {p : List Int} (hp : p.length = 16) (h0 : 0 ≤ e) (h : e < 4294967296) : (bkS (genB e p)).1 = 0 ∧ (bkS (genB e p)).2.length = 55 := by
  unfold bkS
  rw [genS_is]
  unfold genS sDig
  have h0' : Good ((0, []) : WSt) 0 := ⟨rfl, rfl⟩
  have h1 := good_num h0' (e := e) (z := 4) (k := 4) rfl (by omega) (by omega) h0 (by omega)
  have h2 := good_num h1 (e := 0) (z := 6) (k := 6) rfl (by omega) (by omega) (by omega) (by decide)
  have h3 := good_fix h2 (dgB p) (by rw [dgB_length, hp])
  have h4 := good_num h3 (e := 0) (z := 4) (k := 4) rfl (by omega) (by omega) (by omega) (by decide)
  have h5 := good_num h4 (e := 0) (z := 6) (k := 6) rfl (by omega) (by omega) (by omega) (by decide)
  have h6 := good_fix h5 (dgB (List.replicate 16 0)) (m := 16) (by rw [dgB_length]; rfl)
  have h7 := good_num h6 (e := 0) (z := 1) (k := 1) rfl (by omega) (by omega) (by omega) (by decide)
  have h8 := good_num h7 (e := 0) (z := 1) (k := 1) rfl (by omega) (by omega) (by omega) (by decide)
  exact good_num h8 (e := 0) (z := 1) (k := 1) rfl (by omega) (by omega) (by omega) (by decide)
theorem gen_add (e : Int) (p : List Int) (hp : p.length = 16) : (bkS (genB e p)).2.length ≤ 8486 := by
  have := adds_bk (b := genB e p) hp (by simp [genB]) (fun x hx => absurd hx List.not_mem_nil) (fun x hx => absurd hx List.not_mem_nil) (0, [])
  simpa [bkS] using this
/-- Its cells, whatever cells the digest has. -/
def genV (e : Int) (D : Array Value) : Array Value := #[.int .i64 e, .int .i64 0] ++ (D ++ (#[.int .i64 0, .int .i64 0] ++ (arrV .u8 (List.replicate 16 0) ++ #[.slice none 0 0]) ++ #[.slice none 0 0, .slice none 0 0]))
theorem genV_is (e : Int) (p : List Int) : (genB e p).val = genV e (arrV .u8 p) := rfl
end Go.Proofs.YtmoebkdbnldbdaaGreatDoor
/-
  Validators as letters: their cells, rows of them; Find.
-/
namespace Go.Proofs.YtmoebkdbnldbdaaGreatDoor
open Go.RowKit

theorem eqD (w : World) (l1 l2 : List Int) (h1 : l1.length = 16) (h2 : l2.length = 16) : Sem.run Tryz.prog (Op.equalIn 10000 24 (.agg (arrV .u8 l1)) (.agg (arrV .u8 l2))) w = .ok (decide (l1 = l2)) w :=
  eq_arr w 9998 Tryz.underlying24 (by kernel_rfl) Tryz.underlying5 (by kernel_rfl) (by kernel_rfl) l1 l2 h1 h2

theorem vd_range {w : World} {b o : Nat} {x : Vd} (h : w.rangeAt b o x.cells) : w.rangeAt b o (x.key.map (Value.int .u8)) := fun j v hv => h j v (by
  have hj := (List.getElem?_eq_some_iff.1 hv).1
  rw [Vd.cells, List.getElem?_append_left hj]; exact hv)
theorem vd_power {w : World} {b o : Nat} {x : Vd} (hx : x.key.length = 16) (h : w.rangeAt b o x.cells) : w.cell? ⟨b, o + 16, none⟩ = some (.int .i64 x.p) := h 16 _ (by
  rw [Vd.cells, List.getElem?_append_right (by simp [hx])]; simp [hx])
theorem range_new (w : World) (cs : List Value) (t : TypeId) : (w.alloc (.cells cs.toArray t)).rangeAt w.heap.size 0 cs := fun j v hv => by
  rw [Nat.zero_add, (Blk.new w t cs.toArray).cell]; simpa using hv
theorem keySize {l : List Int} (h : l.length = 16) : (Tryz.prog.info? 24).map (·.size) = some (l.map (Value.int .u8)).length := by rw [List.length_map, h]; kernel_rfl
theorem vdSize {x : Vd} (h : x.key.length = 16) : (Tryz.prog.info? 41).map (·.size) = some x.cells.length := by rw [Vd.cells_length h]; kernel_rfl

set_option maxRecDepth 100000 in
set_option maxHeartbeats 1000000 in
theorem find1_is (w : World) (x : Vd) (hx : x.key.length = 16) (B : Nat) (key : List Int) (hk : key.length = 16) (hB : w.rangeAt B 0 (key.map (Value.int .u8))) :
    Calls Tryz.prog 35 #[x.val, .pointer (some ⟨B, 0, none⟩)] w fun e w' => e = .returned (.bool (decide (x.key = key))) ∧ w.grownBy w' none := by
  obtain ⟨kx, hkx⟩ : ∃ kx, kx = x.key.map (Value.int .u8) := ⟨_, rfl⟩
  obtain ⟨ky, hky⟩ : ∃ ky, ky = key.map (Value.int .u8) := ⟨_, rfl⟩
  have heq : ∀ w, Sem.run Tryz.prog (Op.equalIn 10000 24 (.agg kx.toArray) (.agg ky.toArray)) w = .ok (decide (x.key = key)) w := fun w => by rw [hkx, hky]; exact eqD w x.key key hx hk
  have i1 := keySize hx
  have i2 := keySize hk
  rw [← hkx] at i1
  rw [← hky] at i2 hB
  have r1 := vd_range (range_new w x.cells 41)
  rw [← hkx] at r1
  have r2 : (w.alloc (.cells x.cells.toArray 41)).rangeAt B 0 ky := range_kept hB (World.grownBy_alloc w _ none)
  obtain ⟨r, hr⟩ : ∃ r, r = decide (x.key = key) := ⟨_, rfl⟩
  rw [← hr] at heq ⊢
  have HG := Lib.hid (World.grownBy_alloc w (.cells x.cells.toArray 41) none)
  have HI := Lib.hid (And.intro i1 i2)
  have HR := Lib.hid (And.intro r1 r2)
  clear i1 i2 r1 r2 hB hkx hky hr hx hk
  go_enter Tryz.func35, Tryz.ntmps35
  go_wp2_with (first
    | (refine wpList_load_mid rfl 24 _ rfl w.heap.size 0 rfl kx _ HR.out.1 Tryz.underlying24 rfl HI.out.1 ?_)
    | (refine wpList_load_mid rfl 24 _ rfl B 0 rfl ky _ HR.out.2 Tryz.underlying24 rfl HI.out.2 ?_))
  go_ret
  exact ⟨rfl, HG.out⟩

/-- The first place of a key. -/
def findS (key : List Int) : List Vd → Int
  | [] => -1
  | x :: V => if x.key = key then 0 else if findS key V = -1 then -1 else findS key V + 1

def keysOk (V : List Vd) : Prop := ∀ x ∈ V, x.key.length = 16
theorem findS_nonneg (key : List Int) : ∀ V : List Vd, findS key V = -1 ∨ (0 ≤ findS key V ∧ findS key V < V.length)
  | [] => .inl rfl
  | x :: V => by
    rw [findS]
    by_cases h : x.key = key
    · rw [if_pos h]; right; simp
    · rw [if_neg h]
      rcases findS_nonneg key V with h1 | h1
      · rw [if_pos h1]; exact .inl rfl
      · rw [if_neg (by omega)]; right; simp only [List.length_cons]; omega
/-- The first k aren't it: it is found from there on. -/
theorem findS_drop (key : List Int) : ∀ (V : List Vd) (k : Nat), (∀ j (h : j < V.length), j < k → V[j].key ≠ key) → k ≤ V.length → findS key V = if findS key (V.drop k) = -1 then -1 else findS key (V.drop k) + k
  | V, 0, _, _ => by simp
  | [], k + 1, _, hk => by simp at hk
  | x :: V, k + 1, h, hk => by
    have h0 : x.key ≠ key := h 0 (by simp) (by omega)
    have ih := findS_drop key V k (fun j hj hjk => h (j + 1) (by simpa using hj) (by omega)) (by simpa using hk)
    rw [findS, if_neg h0, List.drop_succ_cons, ih]
    rcases findS_nonneg key (V.drop k) with e | ⟨e1, e2⟩
    · simp [e]
    · rw [if_neg (by omega), if_neg (by omega)]; omega
theorem findS_at {key : List Int} {V : List Vd} {k : Nat} (hk : k < V.length) (h : ∀ j (h : j < V.length), j < k → V[j].key ≠ key) (e : V[k].key = key) : findS key V = k := by
  rw [findS_drop key V k h (by omega), List.drop_eq_getElem_cons hk, findS, if_pos e]; simp
theorem findS_none {key : List Int} {V : List Vd} (h : ∀ j (h : j < V.length), V[j].key ≠ key) : findS key V = -1 := by
  rw [findS_drop key V V.length (fun j hj _ => h j hj) (by omega)]; simp [findS]

set_option maxRecDepth 100000 in
set_option maxHeartbeats 1000000 in
theorem indexf_is (w : World) (A : Option Addr) (c : Nat) (V : List Vd) (hV : VdsAt w A V) (ok : keysOk V) (hl : V.length < 1000) (B : Nat) (key : List Int) (hk : key.length = 16) (hB : w.rangeAt B 0 (key.map (Value.int .u8))) :
    Calls Tryz.prog 34 #[.slice A V.length c, .func (.func 35) #[] #[.pointer (some ⟨B, 0, none⟩)]] w fun e w' => e = .returned (.int .i64 (findS key V)) ∧ w.grownBy w' none := by
  go_enter Tryz.func34, Tryz.ntmps34
  go_wp2_with fail
  go_loopw [8] (fun i wr => ∃ k : Nat, k ≤ V.length ∧ i = .int .i64 (k : Int) ∧ (∀ j (h : j < V.length), j < k → V[j].key ≠ key) ∧ w.grownBy wr none) (fun i _ => V.length - (intOf i).toNat)
  case atStart => exact ⟨0, by omega, rfl, fun j _ h => absurd h (by omega), World.grownBy.refl w none⟩
  case round =>
    obtain ⟨k, hkl, hi, hno, hK⟩ := hrel
    obtain ⟨I, hI⟩ : ∃ I : Int, I = (k : Int) := ⟨_, rfl⟩
    rw [← hI] at hi
    subst hi
    by_cases hlt : k < V.length
    · have hne : V ≠ [] := by rintro rfl; simp at hlt
      obtain ⟨b, off, rfl, hc⟩ := hV hne
      have d1 : decide (I < (V.length : Int)) = true := by simp; omega
      have hIV : I < (V.length : Int) := by omega
      have hI0 : 0 ≤ I ∧ I < 1000 := by omega
      have hkI : I.toNat = k := by omega
      have r1 := range_kept (hc k hlt) hK
      have hx := ok _ (List.getElem_mem hlt)
      obtain ⟨x, hxe⟩ : ∃ x, x = V[k] := ⟨_, rfl⟩
      rw [← hxe] at r1 hx
      rw [← hkI] at r1
      have i1 := vdSize hx
      have HR := Lib.hid (And.intro r1 (show ∃ h : k < V.length, x = V[k] from ⟨hlt, hxe⟩))
      have HI := Lib.hid (And.intro i1 hx)
      have HN := Lib.hid (And.intro hno (And.intro hK (And.intro hl hI)))
      clear r1 hxe i1 hx hno hc ok hne hK hV hkl hl hI hkI
      go_wp2_with (refine wpList_load_mid rfl 41 _ rfl b (off + I.toNat * 17) rfl x.cells _ HR.out.1 Tryz.underlying41 rfl HI.out.1 ?_)
      refine (find1_is _ x HI.out.2 B key hk (range_kept hB HN.out.2.1)).mono ?_
      rintro e w1 ⟨rfl, hk1⟩
      by_cases he : x.key = key
      · rw [show decide (x.key = key) = true by simpa using he]
        have HE := Lib.hid he
        clear he
        go_wp2_with fail
        go_ret
        obtain ⟨h1, h3, h2⟩ := HR.out
        refine ⟨?_, grown_trans HN.out.2.1 hk1⟩
        rw [findS_at h3 HN.out.1 (by rw [← h2]; exact HE.out), ← HN.out.2.2.2]
        rfl
      · rw [show decide (x.key = key) = false by simpa using he]
        have HE := Lib.hid he
        clear he
        go_wp2_with fail
        go_roundw
        case rel =>
          obtain ⟨h1, h3, h2⟩ := HR.out
          refine ⟨k + 1, by omega, by rw [HN.out.2.2.2]; rfl, fun j hj hjk => ?_, grown_trans HN.out.2.1 hk1⟩
          by_cases hjk' : j < k
          · exact HN.out.1 j hj hjk'
          · obtain rfl : j = k := by omega
            rw [← h2]; exact HE.out
        case measure => have := HN.out.2.2.2; simp [intOf]; omega
    · have d1 : decide (I < (V.length : Int)) = false := by simp; omega
      have HN := Lib.hid (And.intro hno (And.intro hK (And.intro hkl hlt)))
      clear hno hK hkl hlt hI
      go_wp2_with fail
      go_ret
      refine ⟨?_, HN.out.2.1⟩
      rw [findS_none (fun j hj => HN.out.1 j hj (by have := HN.out.2.2.2; omega))]
      rfl

set_option maxHeartbeats 1000000 in
theorem find_is (w : World) (A : Option Addr) (c : Nat) (V : List Vd) (hV : VdsAt w A V) (ok : keysOk V) (hl : V.length < 1000) (key : List Int) (hk : key.length = 16) :
    Calls Tryz.prog 24 #[.slice A V.length c, .agg (arrV .u8 key)] w fun e w' => e = .returned (.int .i64 (findS key V)) ∧ w.grownBy w' none := by
  obtain ⟨ky, hky⟩ : ∃ ky, ky = arrV .u8 key := ⟨_, rfl⟩
  rw [← hky]
  have HK := Lib.hid hky
  have hR : ∀ W, (w.alloc (.cells ky 24)).grownBy W none → W.rangeAt w.heap.size 0 (key.map (Value.int .u8)) := fun W hW => by
    refine range_kept ?_ hW
    rw [hky]
    exact range_new w (key.map (Value.int .u8)) 24
  have HW := Lib.hid hR
  clear hky hR
  have HG := Lib.hid (World.grownBy_alloc w (.cells ky 24) none)
  go_enter Tryz.func24, Tryz.ntmps24
  go_wp2_with fail
  refine (indexf_is _ A c V (hV.grown HG.out) ok hl w.heap.size key hk (HW.out _ (World.grownBy.refl _ _))).mono ?_
  rintro e w1 ⟨rfl, hk1⟩
  go_wp2_with fail
  go_ret
  exact ⟨rfl, grown_trans HG.out hk1⟩
end Go.Proofs.YtmoebkdbnldbdaaGreatDoor
/-
  Which validators are right; Check.
-/
namespace Go.Proofs.YtmoebkdbnldbdaaGreatDoor
open Go.RowKit

def okAt (V : List Vd) (k : Nat) : Bool := match V[k]? with
  | none => false
  | some x => !decide (x.p < 1) && !decide (1099511627776 < x.p) && decide (findS x.key V = (k : Int))
def rightS (V : List Vd) : Bool := decide (1 ≤ V.length) && decide (V.length ≤ 7) && (List.range V.length).all (okAt V)
theorem rightS_iff (V : List Vd) : rightS V = true ↔ (1 ≤ V.length ∧ V.length ≤ 7) ∧ ∀ k (h : k < V.length), 1 ≤ V[k].p ∧ V[k].p ≤ 1099511627776 ∧ findS V[k].key V = (k : Int) := by
  simp only [rightS, Bool.and_eq_true, decide_eq_true_eq, List.all_eq_true, List.mem_range]
  refine and_congr_right fun _ => forall_congr' fun k => ⟨fun h hk => ?_, fun h hk => ?_⟩
  · have := h hk
    simp only [okAt, List.getElem?_eq_getElem hk, Bool.and_eq_true, Bool.not_eq_true', decide_eq_false_iff_not, decide_eq_true_eq] at this
    exact ⟨by omega, by omega, this.2⟩
  · simp only [okAt, List.getElem?_eq_getElem hk, Bool.and_eq_true, Bool.not_eq_true', decide_eq_false_iff_not, decide_eq_true_eq]
    have := h hk
    exact ⟨⟨by omega, by omega⟩, this.2.2⟩

theorem zero_run {P : Program} {t : TypeId} {v : Value} (w : World) (h : (P.info? t).bind (·.zero) = some v) : Sem.run P (zeroValue t) w = .ok v w := by
  cases hq : P.info? t with
  | none => simp [hq] at h
  | some i =>
    have h1 : i.zero = some v := by simpa [hq] using h
    simp [zeroValue, typeInfo, hq, h1]

theorem wpList_load_mid_want {P : Program} {ops : Array Oper} {rest : List Oper} {op : Oper} {a : Act} {w : World} {Q : Exit → Act → World → Prop} (hw : Region.wanted op (yielded ops a.tmps) = true) (ty : TypeId) (x : Operand) (ho : op.op = .load ty x)
    (b o : Nat) (hx : a.eval x = .pointer (some ⟨b, o, none⟩)) (cs : List Value) (d : TypeDesc) (hc : w.rangeAt b o cs)
    (hu : P.underlying ty = some d) (hd : d.isRow = true) (hi : (P.info? ty).map (·.size) = some cs.length)
    (h : wpList P ops Q rest (a.put op.dst (.agg cs.toArray)) w) : wpList P ops Q (op :: rest) a w :=
  BigFrame.wpList_want hw fun _ hK => wp_load_mid ty x ho b o hx cs d hc hu hd hi (hK _ _ h)

set_option maxRecDepth 100000 in
set_option maxHeartbeats 1000000 in
theorem check_is (w : World) (A : Option Addr) (c B : Nat) (V : List Vd) (es : Addr) (hV : VdsAt w A V) (ok : keysOk V) (hl : V.length < 1000) (he : ErrAt w B 10 es) :
    Calls Tryz.prog 15 #[.slice A V.length c] w fun e w' => w.grownBy w' none ∧ ((rightS V = true ∧ e = .returned .nilIface) ∨ (rightS V = false ∧ e = .returned (errV es))) := by
  by_cases h7 : 1 ≤ V.length ∧ V.length ≤ 7
  · have g1 : ¬ (V.length : Int) < 1 := by omega
    have g2 : ¬ (7 : Int) < (V.length : Int) := by omega
    have g3 : (1 : Int) ≤ (V.length : Int) := by omega
    have g4 : (V.length : Int) ≤ 7 := by omega
    obtain ⟨zs, hzs⟩ : ∃ zs : Array Value, zs = (List.replicate 16 (Value.int .u8 0) ++ [Value.int .i64 0]).toArray := ⟨_, rfl⟩
    have hz : ∀ w, Sem.run Tryz.prog (zeroValue 41) w = .ok (.agg zs) w := fun w => by rw [hzs]; exact zero_run w (by kernel_rfl)
    have HZ := Lib.hid hzs
    clear hzs
    go_enter Tryz.func15, Tryz.ntmps15
    go_wp2_with fail
    go_loopw [16] (fun i wr => ∃ k : Nat, k ≤ V.length ∧ i = .int .i64 (k : Int) ∧ (∀ j (h : j < V.length), j < k → 1 ≤ V[j].p ∧ V[j].p ≤ 1099511627776 ∧ findS V[j].key V = (j : Int)) ∧ w.grownBy wr none) (fun i _ => V.length - (intOf i).toNat)
    case atStart => exact ⟨0, by omega, rfl, fun j _ h => absurd h (by omega), World.grownBy.refl w none⟩
    case round =>
      obtain ⟨k, hkl, hi, hno, hK⟩ := hrel
      obtain ⟨I, hI⟩ : ∃ I : Int, I = (k : Int) := ⟨_, rfl⟩
      rw [← hI] at hi
      subst hi
      by_cases hlt : k < V.length
      · have hne : V ≠ [] := by rintro rfl; simp at hlt
        obtain ⟨b, off, rfl, hc⟩ := hV hne
        have d1 : decide (I < (V.length : Int)) = true := by simp; omega
        have hIV : I < (V.length : Int) := by omega
        have hI0 : 0 ≤ I ∧ I < 1000 := by omega
        have hkI : I.toNat = k := by omega
        have r1 := range_kept (hc k hlt) hK
        have hx := ok _ (List.getElem_mem hlt)
        obtain ⟨x, hxe⟩ : ∃ x, x = V[k] := ⟨_, rfl⟩
        rw [← hxe] at r1 hx
        rw [← hkI] at r1
        have i1 := vdSize hx
        have HR := Lib.hid (And.intro r1 (show ∃ h : k < V.length, x = V[k] from ⟨hlt, hxe⟩))
        have HI := Lib.hid (And.intro i1 hx)
        have HN := Lib.hid (And.intro hno (And.intro hK (And.intro hl hI)))
        have HV := Lib.hid (And.intro hV (And.intro ok he))
        obtain ⟨cs, hcs⟩ : ∃ cs, cs = x.cells.toArray := ⟨_, rfl⟩
        have hsz : cs.size = 17 := by rw [hcs, List.size_toArray, Vd.cells_length hx]
        have hall : (cs.all fun v => v.oneCell') = true := by rw [hcs]; simp [Vd.cells, Value.oneCell']
        have hW : ∀ W, W = (wr.alloc (.cells zs 41)).setRow wr.heap.size cs → wr.grownBy W none ∧ W.rangeAt wr.heap.size 0 (x.key.map (Value.int .u8)) ∧ W.cell? ⟨wr.heap.size, 16, none⟩ = some (.int .i64 x.p) := fun W e => by
          have hb := (Blk.new wr 41 zs).row cs
          rw [← e] at hb
          have hr : W.rangeAt wr.heap.size 0 x.cells := fun j v hv => by
            rw [Nat.zero_add, hb.cell, hcs]; simpa using hv
          refine ⟨?_, vd_range hr, by simpa using vd_power hx hr⟩
          rw [e]
          exact grown_row (World.grownBy_alloc wr _ none) (.inl (Nat.le_refl _)) cs
        have HC := Lib.hid (And.intro hcs (And.intro hsz (And.intro hall (show (Tryz.prog.info? 41).map (·.size) = some cs.size by rw [hsz]; kernel_rfl))))
        have HW := Lib.hid hW
        have HK := Lib.hid (keySize hx)
        obtain ⟨p, hp⟩ : ∃ p, p = x.p := ⟨_, rfl⟩
        rw [← hp] at HW
        have HP := Lib.hid hp
        clear r1 hxe i1 hx hno hc ok hne hK hV hkl hl hI hkI he hcs hsz hall hW hp
        have HF := Lib.hid (show ∀ W, wr.grownBy W none → W.cell? ⟨10, 0, none⟩ = some (errV es) from fun W hW => ((HV.out.2.2.grown HN.out.2.1 (fun _ e => by cases e)).grown hW (fun _ e => by cases e)).1)
        have HNot := Lib.hid (show (p < 1 ∨ 1099511627776 < p ∨ ¬ findS x.key V = I) → rightS V = false from fun h => by
          cases hr : rightS V with
          | false => rfl
          | true =>
            obtain ⟨h1, h3, h2⟩ := HR.out
            obtain ⟨q1, q2, q3⟩ := ((rightS_iff V).1 hr).2 k h3
            rw [← h2] at q1 q2 q3
            have hp := HP.out
            have hI := HN.out.2.2.2
            exfalso; omega)
        by_cases p1 : p < 1
        · have p1' : decide (p < 1) = true := by simpa using p1
          have hnot := Lib.hid (HNot.out (.inl p1))
          clear p1
          go_wp2_with (first
            | (refine wpList_load_mid rfl 41 _ rfl b (off + I.toNat * 17) rfl x.cells _ HR.out.1 Tryz.underlying41 rfl HI.out.1 ?_; rw [← HC.out.1])
            | (refine wpList_store_row rfl 41 _ _ rfl wr.heap.size cs rfl rfl 41 _ (heap_alloc_new wr _) HC.out.2.2.2 (by rw [HC.out.2.1, HZ.out]; simp) HC.out.2.2.1 ?_
               obtain ⟨W0, hW0⟩ : ∃ W0, W0 = (wr.alloc (.cells zs 41)).setRow wr.heap.size cs := ⟨_, rfl⟩
               rw [← hW0]
               have c16 := (HW.out W0 hW0).2.2
               have e16 := HF.out W0 (HW.out W0 hW0).1
               have HG := Lib.hid (HW.out W0 hW0).1
               clear hW0))
          go_ret
          exact ⟨grown_trans HN.out.2.1 HG.out, .inr ⟨hnot.out, rfl⟩⟩
        · have p1' : decide (p < 1) = false := by simpa using p1
          have p1'' : 1 ≤ p := by omega
          by_cases p2 : 1099511627776 < p
          · have p2' : decide (1099511627776 < p) = true := by simpa using p2
            have hnot := Lib.hid (HNot.out (.inr (.inl p2)))
            clear p1
            go_wp2_with (first
              | (refine wpList_load_mid rfl 41 _ rfl b (off + I.toNat * 17) rfl x.cells _ HR.out.1 Tryz.underlying41 rfl HI.out.1 ?_; rw [← HC.out.1])
              | (refine wpList_store_row rfl 41 _ _ rfl wr.heap.size cs rfl rfl 41 _ (heap_alloc_new wr _) HC.out.2.2.2 (by rw [HC.out.2.1, HZ.out]; simp) HC.out.2.2.1 ?_
                 obtain ⟨W0, hW0⟩ : ∃ W0, W0 = (wr.alloc (.cells zs 41)).setRow wr.heap.size cs := ⟨_, rfl⟩
                 rw [← hW0]
                 have c16 := (HW.out W0 hW0).2.2
                 have e16 := HF.out W0 (HW.out W0 hW0).1
                 have HG := Lib.hid (HW.out W0 hW0).1
                 clear hW0))
            go_ret
            exact ⟨grown_trans HN.out.2.1 HG.out, .inr ⟨hnot.out, rfl⟩⟩
          · have p2' : decide (1099511627776 < p) = false := by simpa using p2
            have p2'' : p ≤ 1099511627776 := by omega
            have HP2 := Lib.hid (And.intro p1 p2)
            clear p1 p2
            go_wp2_with (first
              | (refine wpList_load_mid rfl 41 _ rfl b (off + I.toNat * 17) rfl x.cells _ HR.out.1 Tryz.underlying41 rfl HI.out.1 ?_; rw [← HC.out.1])
              | (refine wpList_load_mid_want (by rfl) 24 _ rfl wr.heap.size 0 rfl (x.key.map (Value.int .u8)) _ HG.out.2.1 Tryz.underlying24 rfl HK.out ?_)
              | (refine wpList_store_row rfl 41 _ _ rfl wr.heap.size cs rfl rfl 41 _ (heap_alloc_new wr _) HC.out.2.2.2 (by rw [HC.out.2.1, HZ.out]; simp) HC.out.2.2.1 ?_
                 obtain ⟨W0, hW0⟩ : ∃ W0, W0 = (wr.alloc (.cells zs 41)).setRow wr.heap.size cs := ⟨_, rfl⟩
                 rw [← hW0]
                 have c16 := (HW.out W0 hW0).2.2
                 have HG := Lib.hid (HW.out W0 hW0)
                 clear hW0))
            refine (find_is W0 (some ⟨b, off, none⟩) c V ((HV.out.1.grown HN.out.2.1).grown HG.out.1) HV.out.2.1 HN.out.2.2.1 x.key HI.out.2).mono ?_
            rintro e w1 ⟨rfl, hk1⟩
            obtain ⟨f, hf⟩ : ∃ f, f = findS x.key V := ⟨_, rfl⟩
            rw [← hf]
            by_cases hfk : f = I
            · have f1 : (f != I) = false := by simpa using hfk
              have HFK := Lib.hid (And.intro hf hfk)
              have HK1 := Lib.hid hk1
              clear hf hfk hk1 c16
              go_wp2_with fail
              go_roundw
              case rel =>
                obtain ⟨h1, h3, h2⟩ := HR.out
                have hI := HN.out.2.2.2
                obtain ⟨q1, q2⟩ := HFK.out
                obtain ⟨z1, z2⟩ := HP2.out
                have hp := HP.out
                refine ⟨k + 1, by omega, by rw [hI]; rfl, fun j hj hjk => ?_, grown_trans (grown_trans HN.out.2.1 HG.out.1) HK1.out⟩
                by_cases hjk' : j < k
                · exact HN.out.1 j hj hjk'
                · obtain rfl : j = k := by omega
                  rw [← h2]; omega
              case measure => have := HN.out.2.2.2; simp [intOf]; omega
            · have f1 : (f != I) = true := by simpa using hfk
              have hnot := Lib.hid (HNot.out (.inr (.inr (by rw [← hf]; exact hfk))))
              have e16 := HF.out w1 (grown_trans HG.out.1 hk1)
              have HK1 := Lib.hid hk1
              clear hf hfk hk1 c16
              go_wp2_with fail
              go_ret
              exact ⟨grown_trans (grown_trans HN.out.2.1 HG.out.1) HK1.out, .inr ⟨hnot.out, rfl⟩⟩
      · have d1 : decide (I < (V.length : Int)) = false := by simp; omega
        have HN := Lib.hid (And.intro hno (And.intro hK (And.intro hkl hlt)))
        have H7 := Lib.hid h7
        clear hno hK hkl hlt hI h7
        go_wp2_with fail
        go_ret
        exact ⟨HN.out.2.1, .inl ⟨(rightS_iff V).2 ⟨H7.out, fun j hj => HN.out.1 j hj (by have := HN.out.2.2.2; omega)⟩, rfl⟩⟩
  · have hnot : rightS V = false := by
      cases hr : rightS V with
      | false => rfl
      | true => exact absurd ((rightS_iff V).1 hr).1 h7
    have HNot := Lib.hid hnot
    have e16 := he.1
    by_cases h1 : 1 ≤ V.length
    · have g3 : (1 : Int) ≤ (V.length : Int) := by omega
      have g4 : (7 : Int) < (V.length : Int) := by omega
      clear hnot h7 h1 he hV ok
      go_enter Tryz.func15, Tryz.ntmps15
      go_wp2_with fail
      go_ret
      exact ⟨World.grownBy.refl w none, .inr ⟨HNot.out, rfl⟩⟩
    · have g3 : (V.length : Int) < 1 := by omega
      clear hnot h7 h1 he hV ok
      go_enter Tryz.func15, Tryz.ntmps15
      go_wp2_with fail
      go_ret
      exact ⟨World.grownBy.refl w none, .inr ⟨HNot.out, rfl⟩⟩
end Go.Proofs.YtmoebkdbnldbdaaGreatDoor
/-
  An argument opened: a slice of ints, as a list.
-/

namespace Go.Proofs.YtmoebkdbnldbdaaGreatDoor
open Go.ChangeShapes Go.WideShapes Go.ChangeAt Go.RowKit

section
variable {H : Type} {enc : TypeId × Value → H} {w : World} {base : Nat} {spare : Nat → Bool} {held : Bool} {fuel : Nat} {cs : List Value} {x : DataW H × List MemPlace}

/-- The ints zs lie at A. -/
def IntsAt (w : World) (A : Option Addr) (zs : List Int) : Prop :=
  zs ≠ [] → ∃ ad, A = some ad ∧ ∀ j (h : j < zs.length), w.cell? (ad.add j) = some (.int .i64 zs[j])
theorem open_nums (h : DataW.trod enc Tryz.prog w base spare held fuel 153 cs = some x) :
    ∃ A n c, ∃ l : List Int, cs = [.slice A n c] ∧ l.length = n ∧ n ≤ c ∧ c ≤ maxLen ∧ IntsAt w A l ∧ (∀ z ∈ l, (Lit.int .i64 z).wf = true) ∧ ∀ ad, A = some ad → l ≠ [] → ad.block < w.heap.size := by
  rcases open_ints Tryz.underlying153 Tryz.underlying3 (by kernel_rfl) h with ⟨hcs, _⟩ | ⟨a, len, cap, zs, hcs, _, hl, hm, hz, _, hcell, hwf⟩
  · exact ⟨none, 0, 0, [], hcs, rfl, Nat.le_refl _, by simp [maxLen], fun h => absurd rfl h, (by simp), fun _ e => by cases e⟩
  · have hlz : len ≤ zs.length := by rw [hz]; split <;> omega
    have hc : ∀ j (hj : j < (zs.take len).length), w.cell? (a.add j) = some (.int .i64 (zs.take len)[j]) := by
      intro j hj
      have hj' : j < len := by simp at hj; omega
      rw [hcell j (by omega)]
      simp only [List.getElem_take]
      simp [List.getD, List.getElem?_eq_getElem (show j < zs.length by omega)]
    refine ⟨some a, len, cap, zs.take len, hcs, by simp; omega, hl, hm, fun _ => ⟨a, rfl, hc⟩, fun z hz => hwf z (List.mem_of_mem_take hz), ?_⟩
    intro ad e hne
    injection e with e
    subst e
    have h0 := hc 0 (List.length_pos_iff.2 hne)
    have := World.block_lt_of_cell? w _ h0
    rwa [block_add] at this
theorem IntsAt.get {A : Option Addr} {l : List Int} (h : IntsAt w A l) (hl : l ≠ []) : ∃ b off, A = some ⟨b, off, none⟩ ∧ ∀ j (hj : j < l.length), w.cell? ⟨b, off + j, none⟩ = some (.int .i64 l[j]) := by
  obtain ⟨ad, rfl, hc⟩ := h hl
  obtain ⟨b, off, rfl⟩ := addr_form (hc 0 (List.length_pos_iff.2 hl)) rfl
  exact ⟨b, off, rfl, fun j hj => by rw [← Go.WideShapes.add_plain]; exact hc j hj⟩
theorem IntsAt.keep {w' : World} {A : Option Addr} {l : List Int} (h : IntsAt w A l) (hk : ∀ ad : Addr, A = some ad → w.cell? (ad.add 0) ≠ none → ∀ i, w'.cell? (ad.add i) = w.cell? (ad.add i)) : IntsAt w' A l := fun hl => by
  obtain ⟨ad, rfl, hc⟩ := h hl
  refine ⟨ad, rfl, fun j hj => ?_⟩
  have h0 : 0 < l.length := by omega
  rw [hk ad rfl (by rw [hc 0 h0]; simp) j, hc j hj]
theorem IntsAt.kept {F : Nat → Prop} {w' : World} {A : Option Addr} {l : List Int} (h : IntsAt w A l) (hk : Kept F w w') (hA : ∀ ad, A = some ad → ¬ F ad.block) : IntsAt w' A l :=
  h.keep fun ad e h0 i => World.cell?_of_block (hk.block _ (by
    rw [block_add]
    obtain ⟨v, hv⟩ := Option.ne_none_iff_exists'.1 h0
    have := World.block_lt_of_cell? w _ hv
    rwa [block_add] at this) (by rw [block_add]; exact hA ad e))
set_option maxRecDepth 100000 in
theorem arg_nums {v : Value} {d : DataW H} {p : List MemPlace} {b0 : Nat} (hv : Value.okWide Tryz.prog w .any b0 153 v) (h : DataW.Trod enc Tryz.prog w base spare held 153 v d p) :
    ∃ A n c, ∃ l : List Int, v = .slice A n c ∧ l.length = n ∧ n ≤ c ∧ IntsAt w A l ∧ ∀ z ∈ l, (Lit.int .i64 z).wf = true := by
  obtain ⟨a0, len, cap, rfl⟩ := okWide_slice Tryz.underlying153 hv
  obtain ⟨fuel, hf⟩ := h
  obtain ⟨A, n, c, l, hcs, hn, hc, _, hb, hw, _⟩ := open_nums hf
  have e : Value.slice a0 len cap = .slice A n c := (List.cons.inj (show [Value.slice a0 len cap] = [Value.slice A n c] from hcs)).1
  exact ⟨A, n, c, l, e, hn, hc, hb, hw⟩

end
end Go.Proofs.YtmoebkdbnldbdaaGreatDoor
