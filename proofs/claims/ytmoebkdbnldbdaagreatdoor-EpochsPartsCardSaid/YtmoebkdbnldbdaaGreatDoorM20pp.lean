/-
  Several texts in one: PwS, PwA, PwI, PwT.
-/
import Derived.RangeFuncNested
import Derived.RangeFuncBound
import Derived.RangeFuncBox
import Derived.RangeFuncCalls
import Derived.RangeFuncLeaves
import Derived.Shelf.Abstract
import Derived.Shelf.RegionOpen
import Derived.OwnWalkIn
import Derived.TacticsInMore
import Derived.LoopNIn
import Derived.LoopIn
import Derived.BigRegionIn
import Derived.Test.YtmoebkdbnldbdaaGreatDoorM20po
import Derived.Test.YtmoebkdbnldbdaaGreatDoorM20pj
import Derived.WalkKit
import Derived.RangeFuncFrom
/-
  The sums of powers: everyone, those, add.
-/
namespace Go.Proofs.YtmoebkdbnldbdaaGreatDoor
open Go.RowKit Go.Shelf

attribute [local go_sem] Oper.semAt_some

theorem Below.trans' {n : Nat} {a b c d : World} (k : Below n b c) (h : Below n a b) (l : Below n c d) : Below n a d := (h.trans k).trans l
theorem range_below {w w' : World} {n b o : Nat} {cs : List Value} (h : w.rangeAt b o cs) (hk : Below n w w') (hb : b < n) : w'.rangeAt b o cs := fun j v hv => (hk.cell (p := ⟨b, o + j, none⟩) hb).trans (h j v hv)
/-- A validator's box, laid and filled. -/
theorem box_facts {wr W0 : World} {zs cs : Array Value} {x : Vd} (hx : x.key.length = 16) (hcs : cs = x.cells.toArray) (e : W0 = (wr.alloc (.cells zs 41)).setRow wr.heap.size cs) :
    wr.grownBy W0 none ∧ W0.rangeAt wr.heap.size 0 (x.key.map (Value.int .u8)) ∧ W0.cell? ⟨wr.heap.size, 16, none⟩ = some (.int .i64 x.p) := by
  have hb := (Blk.new wr 41 zs).row cs
  rw [← e] at hb
  have hr : W0.rangeAt wr.heap.size 0 x.cells := fun j v hv => by
    rw [Nat.zero_add, hb.cell, hcs]; simpa using hv
  refine ⟨?_, vd_range hr, by simpa using vd_power hx hr⟩
  rw [e]
  exact grown_row (World.grownBy_alloc wr _ none) (.inl (Nat.le_refl _)) cs
theorem cells_facts {x : Vd} (hx : x.key.length = 16) {cs : Array Value} (hcs : cs = x.cells.toArray) : cs.size = 17 ∧ (cs.all fun v => v.oneCell') = true ∧ (Tryz.prog.info? 41).map (·.size) = some cs.size := by
  have hsz : cs.size = 17 := by rw [hcs, List.size_toArray, Vd.cells_length hx]
  exact ⟨hsz, by rw [hcs]; simp [Vd.cells, Value.oneCell'], by rw [hsz]; kernel_rfl⟩

set_option maxRecDepth 100000 in
set_option maxHeartbeats 2000000 in
theorem every1_in (m l B1 n₀ : Nat) (A : Option Addr) (c : Nat) (V : List Vd) (ok : keysOk V) (hl : V.length < 1000) (J Jx : List Int → World → Prop) (hm : 1 ≤ m) (W : World)
    (hJ : AbidesFrom W.heap.size J)
    (hY : ∀ pre x W, J pre W → pre.length < V.length → YieldAt Fence.wide (m - 1) Tryz.prog l #[.int .i64 x] W fun e W' =>
      (e = .returned (.bool true) ∧ J (pre ++ [x]) W' ∧ Below n₀ W W') ∨ (e = .returned (.bool false) ∧ Jx (pre ++ [x]) W'))
    (hB1 : B1 < n₀) (hn : n₀ ≤ W.heap.size) (h1 : W.cell? ⟨B1, 0, none⟩ = some (.slice A V.length c)) (hV : VdsAt W A V) (hA : ∀ a, A = some a → V ≠ [] → a.block < n₀) (h0 : J [] W) :
    CallsIn Fence.wide m Tryz.prog 122 #[.func (.yield l) #[] #[], .pointer (some ⟨B1, 0, none⟩)] W fun e W' => (∃ v, e = .returned v) ∧
      ((∃ ys, ys = V.map Vd.p ∧ J ys W') ∨ (∃ pre, True ∧ Jx pre W')) := by
  obtain ⟨zs, hzs⟩ : ∃ zs : Array Value, zs = (List.replicate 16 (Value.int .u8 0) ++ [Value.int .i64 0]).toArray := ⟨_, rfl⟩
  have hz : ∀ w, Sem.run Tryz.prog (zeroValue 41) w = .ok (.agg zs) w := fun w => by rw [hzs]; exact zero_run w (by kernel_rfl)
  have HZ := Lib.hid hzs
  have HY := Lib.hid hY
  have HJ := Lib.hid hJ
  have H0 := Lib.hid h0
  have HV := Lib.hid (And.intro hV (And.intro ok (And.intro hA (And.intro hl (And.intro hB1 hn)))))
  clear hzs hY hJ h0 hV ok hA hl hB1 hn
  refine callsIn_of_wp Tryz.func122 rfl trivial ?_ rfl
  simp only [Tryz.ntmps122, List.size_toArray, List.length_cons, List.length_nil, Nat.reduceAdd, Nat.reduceSub, Array.replicate_succ, Array.replicate_zero, List.push_toArray, List.append_toArray, List.nil_append, List.cons_append]
  gi_wp2
  gi_loopw [7] (fun i wr => ∃ k : Nat, k ≤ V.length ∧ i = .int .i64 (k : Int) ∧ J ((V.take k).map Vd.p) wr ∧ Below n₀ W wr ∧ W.heap.size ≤ wr.heap.size) (fun i _ => V.length - (intOf i).toNat)
  case atStart => exact ⟨0, Nat.zero_le _, rfl, by simpa using H0.out, Below.refl _ _, Nat.le_refl _⟩
  case round =>
    obtain ⟨k, hkl, hi, hJk, hK, hsz⟩ := hrel
    obtain ⟨I, hI⟩ : ∃ I : Int, I = (k : Int) := ⟨_, rfl⟩
    rw [← hI] at hi
    subst hi
    by_cases hlt : k < V.length
    · have hne : V ≠ [] := by rintro rfl; simp at hlt
      obtain ⟨b, off, rfl, hc⟩ := HV.out.1 hne
      have hbn : b < n₀ := HV.out.2.2.1 _ rfl hne
      have d1 : decide (I < (V.length : Int)) = true := by simp; omega
      have hIV : I < (V.length : Int) := by omega
      have hI0 : 0 ≤ I ∧ I < 1000 := by have := HV.out.2.2.2.1; omega
      have hkI : I.toNat = k := by omega
      have r1 := range_below (hc k hlt) hK hbn
      have hx := HV.out.2.1 _ (List.getElem_mem hlt)
      obtain ⟨x, hxe⟩ : ∃ x, x = V[k] := ⟨_, rfl⟩
      rw [← hxe] at r1 hx
      rw [← hkI] at r1
      have i1 := vdSize hx
      have htake : (V.take (k + 1)).map Vd.p = (V.take k).map Vd.p ++ [x.p] := by rw [← List.take_append_getElem hlt, List.map_append, hxe]; rfl
      have HR := Lib.hid (And.intro r1 (And.intro i1 htake))
      obtain ⟨cs, hcs⟩ : ∃ cs, cs = x.cells.toArray := ⟨_, rfl⟩
      obtain ⟨W0, hW0⟩ : ∃ W0, W0 = (wr.alloc (.cells zs 41)).setRow wr.heap.size cs := ⟨_, rfl⟩
      obtain ⟨hG0, _, c16⟩ := box_facts hx hcs hW0
      have hJ0 := HJ.out _ _ _ none hJk hG0 (fun _ e => by cases e)
      have hlen : ((V.take k).map Vd.p).length < V.length := by rw [List.length_map, List.length_take]; omega
      obtain ⟨p, hp⟩ : ∃ p, p = x.p := ⟨_, rfl⟩
      rw [← hp] at c16
      obtain ⟨fn, tmps, assign, body, hy, hR⟩ := HY.out _ p W0 hJ0 hlen
      have HC := Lib.hid (And.intro hcs (cells_facts hx hcs))
      have HN := Lib.hid (And.intro hK (And.intro hG0 (And.intro hI (And.intro hsz (And.intro hlt hp)))))
      have HW := Lib.hid hW0
      clear r1 i1 hx hxe htake hcs hG0 hJ0 hlen hp hJk hc hne hbn hI hkI hkl hlt hK hsz hW0
      gi_wp2_with (first
        | (refine wpListIn_load_mid rfl 41 _ rfl b (off + I.toNat * 17) rfl x.cells _ HR.out.1 Tryz.underlying41 rfl HR.out.2.1 ?_; rw [← HC.out.1])
        | (refine wpListIn_store_row rfl 41 _ _ rfl wr.heap.size cs rfl rfl 41 _ (heap_alloc_new wr _) HC.out.2.2.2 (by rw [HC.out.2.1, HZ.out]; simp) HC.out.2.2.1 ?_
           rw [← HW.out]))
      refine hR.mono ?_
      rintro e W3 (⟨rfl, hJ3, hk3⟩ | ⟨rfl, hJx3⟩)
      · have H3 := Lib.hid (And.intro hJ3 hk3)
        clear hJ3 hk3
        gi_wp2
        go_roundw
        case rel =>
          obtain ⟨n1, n2, n3, n4, n5, n6⟩ := HN.out
          obtain ⟨_, _, _, _, _, n7⟩ := HV.out
          refine ⟨k + 1, by omega, by rw [n3]; rfl, by rw [HR.out.2.2, ← n6]; exact H3.out.1, Below.trans' (below_grown n2 (by omega) (fun _ e => by cases e)) n1 H3.out.2, Nat.le_trans n4 (Nat.le_trans n2.size H3.out.2.size)⟩
        case measure => obtain ⟨n1, n2, n3, n4, n5, n6⟩ := HN.out; simp [intOf]; omega
      · have H3 := Lib.hid hJx3
        clear hJx3
        gi_wp2
        refine bodyPost_ret (results_none rfl _ _ _) rfl ?_
        exact ⟨⟨_, rfl⟩, .inr ⟨_, trivial, H3.out⟩⟩
    · have d1 : decide (I < (V.length : Int)) = false := by simp; omega
      obtain rfl : k = V.length := by omega
      rw [List.take_length] at hJk
      have HJk := Lib.hid hJk
      clear hlt hI hkl hJk hK hsz
      gi_wp2
      go_end0
      exact ⟨⟨_, rfl⟩, .inl ⟨_, rfl, HJk.out⟩⟩
/-- The places of who that lie in V, with their powers. -/
def powersAt (V : List Vd) (who : List Int) : List Int := who.map fun i => ((V[i.toNat]?).map Vd.p).getD 0
theorem powersAt_snoc (V : List Vd) (who : List Int) (k : Nat) (h : k < who.length) (hv : (who[k]).toNat < V.length) : powersAt V (who.take (k + 1)) = powersAt V (who.take k) ++ [V[(who[k]).toNat].p] := by
  rw [← List.take_append_getElem h, powersAt, powersAt, List.map_append]
  simp [List.getElem?_eq_getElem hv]

set_option maxRecDepth 100000 in
set_option maxHeartbeats 2000000 in
theorem those1_in (m l B1 B2 n₀ : Nat) (A A2 : Option Addr) (c c2 : Nat) (V : List Vd) (who : List Int) (ok : keysOk V) (hl : V.length < 1000) (hw : who.length < 1000) (hin : ∀ i ∈ who, 0 ≤ i ∧ i < V.length) (J Jx : List Int → World → Prop) (hm : 1 ≤ m) (W : World)
    (hY : ∀ pre x W, J pre W → pre.length < who.length → YieldAt Fence.wide (m - 1) Tryz.prog l #[.int .i64 x] W fun e W' =>
      (e = .returned (.bool true) ∧ J (pre ++ [x]) W' ∧ Below n₀ W W') ∨ (e = .returned (.bool false) ∧ Jx (pre ++ [x]) W'))
    (hB2 : B2 < n₀) (hn : n₀ ≤ W.heap.size) (h1 : W.cell? ⟨B1, 0, none⟩ = some (.slice A2 who.length c2)) (h2 : W.cell? ⟨B2, 0, none⟩ = some (.slice A V.length c)) (hV : VdsAt W A V) (hA : ∀ a, A = some a → V ≠ [] → a.block < n₀)
    (hW : IntsAt W A2 who) (hA2 : ∀ a, A2 = some a → who ≠ [] → a.block < n₀) (h0 : J [] W) :
    CallsIn Fence.wide m Tryz.prog 115 #[.func (.yield l) #[] #[], .pointer (some ⟨B1, 0, none⟩), .pointer (some ⟨B2, 0, none⟩)] W fun e W' => (∃ v, e = .returned v) ∧
      ((∃ ys, ys = powersAt V who ∧ J ys W') ∨ (∃ pre, True ∧ Jx pre W')) := by
  have HY := Lib.hid hY
  have H0 := Lib.hid h0
  have HV := Lib.hid (And.intro hV (And.intro ok (And.intro hA (And.intro hl (And.intro hB2 hn)))))
  have HU := Lib.hid (And.intro hW (And.intro hA2 (And.intro hw hin)))
  clear hY h0 hV ok hA hl hn hW hA2 hw hin
  refine callsIn_of_wp Tryz.func115 rfl trivial ?_ rfl
  simp only [Tryz.ntmps115, List.size_toArray, List.length_cons, List.length_nil, Nat.reduceAdd, Nat.reduceSub, Array.replicate_succ, Array.replicate_zero, List.push_toArray, List.append_toArray, List.nil_append, List.cons_append]
  gi_wp2
  gi_loopw [8] (fun i wr => ∃ k : Nat, k ≤ who.length ∧ i = .int .i64 (k : Int) ∧ J (powersAt V (who.take k)) wr ∧ Below n₀ W wr) (fun i _ => who.length - (intOf i).toNat)
  case atStart => exact ⟨0, Nat.zero_le _, rfl, by simpa [powersAt] using H0.out, Below.refl _ _⟩
  case round =>
    obtain ⟨k, hkl, hi, hJk, hK⟩ := hrel
    obtain ⟨I, hI⟩ : ∃ I : Int, I = (k : Int) := ⟨_, rfl⟩
    rw [← hI] at hi
    subst hi
    clear h1
    by_cases hlt : k < who.length
    · have hne : who ≠ [] := by rintro rfl; simp at hlt
      obtain ⟨b2, off2, rfl, hc2⟩ := HU.out.1.get hne
      obtain ⟨z, hz⟩ : ∃ z, z = who[k] := ⟨_, rfl⟩
      have hzr := HU.out.2.2.2 z (by rw [hz]; exact List.getElem_mem hlt)
      have hneV : V ≠ [] := by rintro rfl; simp at hzr; omega
      obtain ⟨b, off, rfl, hc⟩ := HV.out.1 hneV
      have hb2n : b2 < n₀ := HU.out.2.1 _ rfl hne
      have hbn : b < n₀ := HV.out.2.2.1 _ rfl hneV
      have d1 : decide (I < (who.length : Int)) = true := by simp; omega
      have hIV : I < (who.length : Int) := by omega
      have hI0 : 0 ≤ I ∧ I < 1000 := by have := HU.out.2.2.1; omega
      have hkI : I.toNat = k := by omega
      have hzt : z.toNat < V.length := by omega
      have hx := HV.out.2.1 _ (List.getElem_mem hzt)
      have c2' : wr.cell? ⟨b2, off2 + I.toNat, none⟩ = some (.int .i64 z) := by rw [hkI, hz]; exact (hK.cell (p := ⟨b2, off2 + k, none⟩) hb2n).trans (hc2 k hlt)
      have c16 := vd_power hx (range_below (hc z.toNat hzt) hK hbn)
      have hB2' := (hK.cell (p := ⟨B2, 0, none⟩) hB2).trans h2
      obtain ⟨p, hp⟩ : ∃ p, p = V[z.toNat].p := ⟨_, rfl⟩
      rw [← hp] at c16
      have htake : powersAt V (who.take (k + 1)) = powersAt V (who.take k) ++ [p] := by
        rw [powersAt_snoc V who k hlt (by rw [← hz]; exact hzt), hp]
        simp only [← hz]
      have hlen : (powersAt V (who.take k)).length < who.length := by rw [powersAt, List.length_map, List.length_take]; omega
      obtain ⟨fn, tmps, assign, body, hy, hR⟩ := HY.out _ p wr hJk hlen
      have HN := Lib.hid (And.intro hK (And.intro hI (And.intro hlt htake)))
      have hz0 : 0 ≤ z ∧ z < (V.length : Int) := hzr
      clear hx htake hlen hp hJk hc hc2 hne hneV hbn hb2n hI hkI hkl hlt hK hzr hz h2 hzt
      gi_wp2
      refine hR.mono ?_
      rintro e W3 (⟨rfl, hJ3, hk3⟩ | ⟨rfl, hJx3⟩)
      · have H3 := Lib.hid (And.intro hJ3 hk3)
        clear hJ3 hk3
        gi_wp2
        go_roundw
        case rel =>
          obtain ⟨n1, n3, n5, ht⟩ := HN.out
          exact ⟨k + 1, by omega, by rw [n3]; rfl, by rw [ht]; exact H3.out.1, n1.trans H3.out.2⟩
        case measure => obtain ⟨n1, n3, n5, ht⟩ := HN.out; simp [intOf]; omega
      · have H3 := Lib.hid hJx3
        clear hJx3
        gi_wp2
        refine bodyPost_ret (results_none rfl _ _ _) rfl ?_
        exact ⟨⟨_, rfl⟩, .inr ⟨_, trivial, H3.out⟩⟩
    · have d1 : decide (I < (who.length : Int)) = false := by simp; omega
      obtain rfl : k = who.length := by omega
      rw [List.take_length] at hJk
      have HJk := Lib.hid hJk
      clear hlt hI hkl hJk hK
      gi_wp2
      go_end0
      exact ⟨⟨_, rfl⟩, .inl ⟨_, rfl, HJk.out⟩⟩
end Go.Proofs.YtmoebkdbnldbdaaGreatDoor
/-
  The sums of powers: the makers, add.
-/
namespace Go.Proofs.YtmoebkdbnldbdaaGreatDoor
open Go.RowKit Go.Shelf

attribute [local go_sem] Oper.semAt_some

set_option maxHeartbeats 1000000 in
theorem everyone_is (x : Value) (A : Option Addr) (n c : Nat) (w : World) (hx : x = .slice A n c) :
    Calls Tryz.prog 116 #[x] w fun e w' => e = .returned (.func (.func 122) #[] #[.pointer (some ⟨w.heap.size, 0, none⟩)]) ∧
      w' = w.alloc (.cells #[x] 22) := by
  subst hx
  go_enter Tryz.func116, Tryz.ntmps116
  go_wp2_with fail
  go_ret
  exact ⟨rfl, rfl⟩

set_option maxHeartbeats 1000000 in
theorem those_is (A A2 : Option Addr) (n c n2 c2 : Nat) (w : World) :
    Calls Tryz.prog 103 #[.slice A n c, .slice A2 n2 c2] w fun e w' => e = .returned (.func (.func 115) #[] #[.pointer (some ⟨w.heap.size + 1, 0, none⟩), .pointer (some ⟨w.heap.size, 0, none⟩)]) ∧
      w' = (w.alloc (.cells #[.slice A n c] 22)).alloc (.cells #[.slice A2 n2 c2] 153) := by
  go_enter Tryz.func103, Tryz.ntmps103
  go_wp2_with fail
  go_ret
  exact ⟨rfl, rfl⟩

/-- everyone(v) as an iterator. -/
theorem everyone_stops (m n₀ : Nat) (hm : 1 ≤ m) (A : Option Addr) (c : Nat) (V : List Vd) (ok : keysOk V) (hl : V.length < 1000) (w : World) (hV : VdsAt w A V) (hA : ∀ a, A = some a → V ≠ [] → a.block < n₀) (hn : n₀ ≤ w.heap.size) (B : Nat) (hB : B < n₀) (h1 : w.cell? ⟨B, 0, none⟩ = some (.slice A V.length c)) :
    SeqStopsK Fence.wide m Tryz.prog 122 #[.pointer (some ⟨B, 0, none⟩)] (fun x : Int => #[.int .i64 x]) (Below n₀) (fun ys => ys = V.map Vd.p) (fun _ => True) V.length w := fun l J Jx W hW hJ _ hY h0 =>
  every1_in m l B n₀ A c V ok hl J Jx hm W hJ hY hB (Nat.le_trans hn hW.size) ((hW.cell (p := ⟨B, 0, none⟩) (by dsimp only; omega)).trans h1)
    (fun hne => by obtain ⟨b, off, rfl, hc⟩ := hV hne; exact ⟨b, off, rfl, fun k hk => range_below (hc k hk) hW (by have := hA _ rfl hne; dsimp only at this; omega)⟩) hA h0

theorem ints_below {n : Nat} {w w' : World} {A : Option Addr} {l : List Int} (h : IntsAt w A l) (hk : Below n w w') (hA : ∀ a, A = some a → l ≠ [] → a.block < n) : IntsAt w' A l := fun hl => by
  obtain ⟨ad, rfl, hc⟩ := h hl
  exact ⟨ad, rfl, fun j hj => (hk.cell (by rw [block_add]; exact hA ad rfl hl)).trans (hc j hj)⟩
theorem those_stops (m n₀ : Nat) (hm : 1 ≤ m) (A A2 : Option Addr) (c c2 : Nat) (V : List Vd) (who : List Int) (ok : keysOk V) (hl : V.length < 1000) (hw : who.length < 1000) (hin : ∀ i ∈ who, 0 ≤ i ∧ i < V.length) (w : World) (hV : VdsAt w A V) (hA : ∀ a, A = some a → V ≠ [] → a.block < n₀) (hU : IntsAt w A2 who) (hA2 : ∀ a, A2 = some a → who ≠ [] → a.block < n₀) (hn : n₀ ≤ w.heap.size) (B1 B2 : Nat) (hB1 : B1 < n₀) (hB2 : B2 < n₀) (h1 : w.cell? ⟨B1, 0, none⟩ = some (.slice A2 who.length c2)) (h2 : w.cell? ⟨B2, 0, none⟩ = some (.slice A V.length c)) :
    SeqStopsK Fence.wide m Tryz.prog 115 #[.pointer (some ⟨B1, 0, none⟩), .pointer (some ⟨B2, 0, none⟩)] (fun x : Int => #[.int .i64 x]) (Below n₀) (fun ys => ys = powersAt V who) (fun _ => True) who.length w := fun l J Jx W hW hJ _ hY h0 =>
  those1_in m l B1 B2 n₀ A A2 c c2 V who ok hl hw hin J Jx hm W hY hB2 (Nat.le_trans hn hW.size) ((hW.cell (p := ⟨B1, 0, none⟩) (by dsimp only; omega)).trans h1) ((hW.cell (p := ⟨B2, 0, none⟩) (by dsimp only; omega)).trans h2)
    (fun hne => by obtain ⟨b, off, rfl, hc⟩ := hV hne; exact ⟨b, off, rfl, fun k hk => range_below (hc k hk) hW (by have := hA _ rfl hne; dsimp only at this; omega)⟩) hA
    (ints_below hU hW (fun a ha hne => by have := hA2 a ha hne; omega)) hA2 h0

/-- A sum, as Go adds. -/
def sumW (zs : List Int) : Int := zs.foldl (fun s x => wrap64 (s + x)) 0
theorem sumW_snoc (zs : List Int) (x : Int) : sumW (zs ++ [x]) = wrap64 (sumW zs + x) := by simp [sumW]

set_option maxRecDepth 100000 in
set_option maxHeartbeats 2000000 in
theorem add_is (w : World) (gf : Nat) (lb : Array Value) (eg : ∀ args w, (callFunc gf args).run Tryz.prog w = .ok (.enter gf args) w) (zs : List Int) (N : Nat)
    (hS : SeqStopsK Fence.wide 4 Tryz.prog gf lb (fun x : Int => #[.int .i64 x]) (Below w.heap.size) (fun ys => ys = zs) (fun _ => True) N (w.alloc (.cells #[.int .i64 0] 3))) :
    Calls Tryz.prog 102 #[.func (.func gf) #[] lb] w fun e w' => e = .returned (.int .i64 (sumW zs)) ∧ Below w.heap.size w w' := by
  refine (callsIn_wide (n := 5)).1 ?_
  refine callsIn_of_wp_marks Tryz.func102 rfl trivial ?_ rfl
  simp only [Tryz.ntmps102, List.size_toArray, List.length_cons, List.length_nil, Nat.reduceAdd, Nat.reduceSub, Array.replicate_succ, Array.replicate_zero, List.push_toArray, List.append_toArray, List.nil_append, List.cons_append]
  gi_wp2
  have b0 := Boxed.new w 3 (.int .i64 0)
  have hBl := (Below.refl w.heap.size w).alloc (Nat.le_refl _) (.cells #[.int .i64 0] 3)
  obtain ⟨W0, hW0⟩ : ∃ W0, w.alloc (.cells #[.int .i64 0] 3) = W0 := ⟨_, rfl⟩
  have hsz : W0.heap.size = w.heap.size + 1 := by rw [← hW0]; simp
  rw [hW0] at hBl b0 hS ⊢
  clear hW0
  refine wpIn_rangeFunc_ownF rfl (by omega) (gf := gf) (lb := lb) rfl trivial eg hS (fun h1 h2 => belowK_t h1 h2) (belowK_b (by omega)) (Below.refl _ _) (fun _ => rfl)
    (fun pre W => (W.cell? ⟨w.heap.size, 0, none⟩ = some (.int .i64 (sumW pre)) ∧ W.frozen? ⟨w.heap.size, 0, none⟩ = false) ∧ Below w.heap.size w W)
    (fun _ _ _ => False)
    (OwnFrom.and (Own.from (fun s A B row hs hg hr => ⟨cell_kept hs.1 hg hr, (frozen_kept hs.1 hg hr).trans hs.2⟩) _) (ownFrom_below (Nat.le_refl _) (by omega)))
    (fun _ _ _ _ _ hs _ _ => hs)
    ⟨⟨b0.cell, b0.frozen⟩, hBl⟩
    (fun x => { tmps := #[.func (.func gf) #[] lb, undef, .int .i64 0, .pointer (some ⟨w.heap.size, 0, none⟩), .int .i64 x, .func (.func gf) #[] lb, .int .i64 x, undef, undef, undef, undef], defers := [] }) ?assign ?body ?done ?stop
  case assign =>
    intro l x W K hK
    gi_wp2
    exact hK
  case body =>
    rintro l pre x W ⟨⟨hc, hf⟩, hbl⟩ _
    gi_wp2
    exact ⟨KeepsOthers.setCell _ _ _, (Below.refl w.heap.size W).setCell (p := ⟨w.heap.size, 0, none⟩) (Nat.le_refl _) _, ⟨by rw [sumW_snoc]; exact World.cell?_setCell_same' _ _ _ (by rw [hc]; rfl), by rw [World.frozen?_setCell]; exact hf⟩, hbl.setCell (p := ⟨w.heap.size, 0, none⟩) (Nat.le_refl _) _⟩
  case done =>
    rintro D ys W hD rfl ⟨⟨hc, _⟩, hbl⟩ hK
    gi_wp2
    refine ⟨by simp, .inl ⟨_, _, rfl, run_takeDeferred hK, ?_⟩⟩
    exact ⟨_, results_tmp rfl _ _ _, rfl, hbl.trans (belowK_b (w := w) (Nat.le_refl _) W D _ _ (by omega) hK rfl rfl)⟩
  case stop =>
    rintro D c pre W _ _ h _
    exact h.elim
end Go.Proofs.YtmoebkdbnldbdaaGreatDoor
/-
  Look-ups in a row of numbers.
-/
namespace Go.Proofs.YtmoebkdbnldbdaaGreatDoor
open Go.RowKit

theorem index_is (w : World) (A : Option Addr) (n c : Nat) (l : List Int) (x : Int) (hn : l.length = n) (h100 : n ≤ 100) (hz : IntsAt w A l) :
    Calls Tryz.prog 114 #[.slice A n c, .int .i64 x] w fun e w' => (∃ v : Int, e = .returned (.int .i64 v) ∧ decide (0 ≤ v) = decide (x ∈ l)) ∧ w = w' := by
  go_enter Tryz.func114, Tryz.ntmps114
  go_wp2
  go_loop [8] (fun i => ∃ k : Nat, k ≤ n ∧ i = .int .i64 (k : Int) ∧ x ∉ l.take k) (fun i => n - (intOf i).toNat)
  case atStart => exact ⟨0, Nat.zero_le _, rfl, by simp⟩
  case round =>
    obtain ⟨k, hk, rfl, hx⟩ := hrel
    have hx' := Lib.hid hx
    clear hx
    by_cases hlt : k < n
    · have hlt' : decide ((k : Int) < (n : Int)) = true := by simp; omega
      have hkz : k < l.length := by omega
      obtain ⟨zb, zo, rfl, hc⟩ := hz.get (by intro e; rw [e] at hkz; simp at hkz)
      have hcell := hc k hkz
      clear hc
      obtain ⟨y, hy⟩ : ∃ y, l[k] = y := ⟨_, rfl⟩
      rw [hy] at hcell
      have Hy := Lib.hid hy
      have Hn := Lib.hid hn
      clear hy hn
      by_cases hxy : x = y
      · have d : (x == y) = true := by simpa using hxy
        have hm : x ∈ l := by rw [hxy, ← Hy.out]; exact List.getElem_mem _
        have Hm := Lib.hid hm
        clear hm hxy
        go_wp2
        go_ret
        exact ⟨⟨_, rfl, by simp [Hm.out]⟩, rfl⟩
      · have d : (x == y) = false := by simpa using hxy
        have Hxy := Lib.hid hxy
        clear hxy
        go_wp2
        go_round
        case rel =>
          refine ⟨k + 1, by omega, by go_num, ?_⟩
          rw [List.take_add_one, List.getElem?_eq_getElem hkz, Hy.out]
          simp only [Option.toList, List.mem_append, List.mem_singleton, not_or]
          exact ⟨hx'.out, Hxy.out⟩
        case measure => simp [intOf]; omega
    · have hlt' : decide ((k : Int) < (n : Int)) = false := by simp; omega
      obtain rfl : k = n := by omega
      have hm : x ∉ l := by have := hx'.out; rwa [← hn, List.take_length] at this
      have Hm := Lib.hid hm
      clear hm hn
      go_wp2
      go_ret
      exact ⟨⟨_, rfl, by simp [Hm.out]⟩, rfl⟩

theorem contains_is (w : World) (A : Option Addr) (n c : Nat) (l : List Int) (x : Int) (b : Bool) (hb : decide (x ∈ l) = b) (hn : l.length = n) (h100 : n ≤ 100) (hz : IntsAt w A l) :
    Calls Tryz.prog 101 #[.slice A n c, .int .i64 x] w fun e w' => e = .returned (.bool b) ∧ w = w' := by
  go_enter Tryz.func101, Tryz.ntmps101
  have Hb := Lib.hid hb
  clear hb
  go_wp2_with fail
  refine (index_is w A n c l x hn h100 hz).mono ?_
  rintro e w1 ⟨⟨v, rfl, hv⟩, rfl⟩
  rw [Hb.out] at hv
  go_wp2_with fail
  go_ret
  exact ⟨rfl, rfl⟩

end Go.Proofs.YtmoebkdbnldbdaaGreatDoor
/-
  Total, Quorum.
-/
namespace Go.Proofs.YtmoebkdbnldbdaaGreatDoor
open Go.RowKit

theorem VdsAt.above {w w' : World} {A : Option Addr} {V : List Vd} (h : VdsAt w A V) (hk : Below w.heap.size w w') : VdsAt w' A V := fun hne => by
  obtain ⟨b, off, rfl, hc⟩ := h hne
  refine ⟨b, off, rfl, fun k hk' j v hv => ?_⟩
  have h1 := hc k hk' j v hv
  exact (hk.cell (World.block_lt_of_cell? w _ h1)).trans h1
theorem VdsAt.blk {w : World} {A : Option Addr} {V : List Vd} (h : VdsAt w A V) : ∀ a, A = some a → V ≠ [] → a.block < w.heap.size := fun a ha hne => by
  obtain ⟨b, off, rfl, hc⟩ := h hne
  cases ha
  have h0 := List.length_pos_iff.2 hne
  have h1 := hc 0 h0 V[0].key.length (.int .i64 V[0].p) (by simp [Vd.cells])
  have h2 := World.block_lt_of_cell? w _ h1
  exact h2
theorem IntsAt.above {w w' : World} {A : Option Addr} {l : List Int} (h : IntsAt w A l) (hk : Below w.heap.size w w') : IntsAt w' A l := fun hl => by
  obtain ⟨ad, rfl, hc⟩ := h hl
  exact ⟨ad, rfl, fun j hj => (hk.cell (World.block_lt_of_cell? w _ (hc j hj))).trans (hc j hj)⟩
theorem IntsAt.blk {w : World} {A : Option Addr} {l : List Int} (h : IntsAt w A l) : ∀ a, A = some a → l ≠ [] → a.block < w.heap.size := fun a ha hne => by
  obtain ⟨b, off, rfl, hc⟩ := h.get hne
  cases ha
  have h2 := World.block_lt_of_cell? w _ (hc 0 (List.length_pos_iff.2 hne))
  exact h2
theorem ErrAt.above {w w' : World} {B k : Nat} {a : Addr} (h : ErrAt w B k a) (hk : Below w.heap.size w w') (hB : B ≤ w.heap.size) : ErrAt w' B k a := h.below hk hB
theorem grown_above {w w' : World} (h : w.grownBy w' none) : Below w.heap.size w w' := below_grown h (Nat.le_refl _) (fun _ e => by cases e)
theorem above_trans {a b c : World} (h : Below a.heap.size a b) (k : Below b.heap.size b c) : Below a.heap.size a c := h.trans (k.mono h.size)

theorem sum_bounds (M : Int) (hM : 0 ≤ M) : ∀ zs : List Int, (∀ z ∈ zs, 1 ≤ z ∧ z ≤ M) → (zs.length : Int) ≤ zs.sum ∧ zs.sum ≤ zs.length * M
  | [], _ => by simp
  | z :: zs, h => by
    have h1 := h z (by simp)
    have h2 := sum_bounds M hM zs fun x hx => h x (by simp [hx])
    have e : ((zs.length + 1 : Nat) : Int) * M = zs.length * M + M := by rw [Int.natCast_add, Int.add_mul]; simp
    rw [List.sum_cons, List.length_cons, e]
    omega
theorem foldW : ∀ (zs : List Int) (s : Int), (∀ z ∈ zs, 1 ≤ z ∧ z ≤ 1099511627776) → 0 ≤ s → s + zs.length * 1099511627776 ≤ 9223372036854775807 → zs.foldl (fun s x => wrap64 (s + x)) s = s + zs.sum
  | [], s, _, _, _ => by simp
  | z :: zs, s, h, h0, hs => by
    have h1 := h z (by simp)
    rw [List.length_cons] at hs
    rw [List.foldl_cons, w64 _ ⟨by omega, by omega⟩, foldW zs (s + z) (fun x hx => h x (by simp [hx])) (by omega) (by omega), List.sum_cons]
    omega
theorem sumW_sum (zs : List Int) (h : ∀ z ∈ zs, 1 ≤ z ∧ z ≤ 1099511627776) (hl : zs.length < 1000) : sumW zs = zs.sum := by
  rw [sumW, foldW zs 0 h (by omega) (by omega)]; omega

def powersOf (V : List Vd) : List Int := V.map Vd.p
theorem right_powers {V : List Vd} (hr : rightS V = true) : V.length ≤ 7 ∧ 1 ≤ V.length ∧ ∀ z ∈ powersOf V, 1 ≤ z ∧ z ≤ 1099511627776 := by
  obtain ⟨⟨h1, h2⟩, h3⟩ := (rightS_iff V).1 hr
  refine ⟨h2, h1, fun z hz => ?_⟩
  obtain ⟨x, hx, rfl⟩ := List.mem_map.1 hz
  obtain ⟨k, hk, rfl⟩ := List.getElem_of_mem hx
  have := h3 k hk
  exact ⟨this.1, this.2.1⟩
def totalS (V : List Vd) : Int := if rightS V then (powersOf V).sum else 0
def quorumS (V : List Vd) : Int := if rightS V then 2 * (powersOf V).sum / 3 + 1 else 0
theorem total_bound {V : List Vd} (hr : rightS V = true) : 1 ≤ (powersOf V).sum ∧ (powersOf V).sum ≤ 7696581394432 := by
  obtain ⟨h1, h2, h3⟩ := right_powers hr
  have hl : (powersOf V).length = V.length := by simp [powersOf]
  have := sum_bounds 1099511627776 (by omega) (powersOf V) h3
  rw [hl] at this
  omega

set_option maxRecDepth 100000 in
set_option maxHeartbeats 1000000 in
theorem total_is (w : World) (A : Option Addr) (c B : Nat) (V : List Vd) (es : Addr) (hV : VdsAt w A V) (ok : keysOk V) (hl : V.length < 1000) (hB : B ≤ w.heap.size) (he : ErrAt w B 10 es) :
    Calls Tryz.prog 104 #[.slice A V.length c] w fun e w' => e = .returned (.int .i64 (totalS V)) ∧ Below w.heap.size w w' := by
  have HV := Lib.hid (And.intro hV (And.intro ok (And.intro hl (And.intro hB he))))
  clear hV ok hl hB he
  cases hr : rightS V with
  | false =>
    rw [show totalS V = 0 by simp [totalS, hr]]
    have HR := Lib.hid hr
    clear hr
    go_enter Tryz.func104, Tryz.ntmps104
    go_wp2_with fail
    refine (check_is w A c B V es HV.out.1 HV.out.2.1 HV.out.2.2.1 HV.out.2.2.2.2).mono ?_
    rintro e w1 ⟨hk1, ⟨h, _⟩ | ⟨_, rfl⟩⟩
    · rw [HR.out] at h; cases h
    · have HK := Lib.hid hk1
      clear hk1
      go_wp2_with fail
      go_ret
      exact ⟨rfl, grown_above HK.out⟩
  | true =>
    obtain ⟨t, ht⟩ : ∃ t, t = totalS V := ⟨_, rfl⟩
    have hts : t = sumW (powersOf V) := by
      rw [ht, totalS, if_pos hr, sumW_sum _ (right_powers hr).2.2 (by have := (right_powers hr).1; simp [powersOf]; omega)]
    rw [← ht]
    have HR := Lib.hid (And.intro hr hts)
    clear hr ht hts
    go_enter Tryz.func104, Tryz.ntmps104
    go_wp2_with fail
    refine (check_is w A c B V es HV.out.1 HV.out.2.1 HV.out.2.2.1 HV.out.2.2.2.2).mono ?_
    rintro e w1 ⟨hk1, ⟨_, rfl⟩ | ⟨h, _⟩⟩
    · have HK := Lib.hid hk1
      clear hk1
      go_wp2_with fail
      refine (everyone_is _ A V.length c w1 rfl).mono ?_
      rintro e w2 ⟨rfl, rfl⟩
      go_wp2_with fail
      have hV2 := (HV.out.1.grown HK.out)
      refine (add_is _ _ _ (enters_of Tryz.func122 (by kernel_rfl) rfl) (powersOf V) V.length
        (everyone_stops 4 _ (by omega) A c V HV.out.2.1 HV.out.2.2.1 _ ((hV2.grown (World.grownBy_alloc _ _ none)).grown (World.grownBy_alloc _ _ none)) (fun a ha hne => by have := hV2.blk a ha hne; simp; omega) (by simp) w1.heap.size (by simp) ((Boxed.new w1 22 (.slice A V.length c)).alloc _).cell)).mono ?_
      rintro e w3 ⟨rfl, hk3⟩
      rw [← HR.out.2]
      have HK3 := Lib.hid hk3
      clear hk3 hV2
      go_wp2_with fail
      go_ret
      refine ⟨rfl, above_trans (above_trans (grown_above HK.out) (grown_above (World.grownBy_alloc _ _ none))) HK3.out⟩
    · rw [HR.out.1] at h; cases h

set_option maxRecDepth 100000 in
set_option maxHeartbeats 1000000 in
theorem quorum_is (w : World) (A : Option Addr) (c B : Nat) (V : List Vd) (es : Addr) (hV : VdsAt w A V) (ok : keysOk V) (hl : V.length < 1000) (hB : B ≤ w.heap.size) (he : ErrAt w B 10 es) :
    Calls Tryz.prog 89 #[.slice A V.length c] w fun e w' => e = .returned (.int .i64 (quorumS V)) ∧ Below w.heap.size w w' := by
  have HV := Lib.hid (And.intro hV (And.intro ok (And.intro hl (And.intro hB he))))
  clear hV ok hl hB he
  cases hr : rightS V with
  | false =>
    rw [show quorumS V = 0 by simp [quorumS, hr]]
    have HR := Lib.hid hr
    clear hr
    go_enter Tryz.func89, Tryz.ntmps89
    go_wp2_with fail
    refine (check_is w A c B V es HV.out.1 HV.out.2.1 HV.out.2.2.1 HV.out.2.2.2.2).mono ?_
    rintro e w1 ⟨hk1, ⟨h, _⟩ | ⟨_, rfl⟩⟩
    · rw [HR.out] at h; cases h
    · have HK := Lib.hid hk1
      clear hk1
      go_wp2_with fail
      go_ret
      exact ⟨rfl, grown_above HK.out⟩
  | true =>
    obtain ⟨t, ht⟩ : ∃ t, t = totalS V := ⟨_, rfl⟩
    have hb := total_bound hr
    have hts : t = (powersOf V).sum := by rw [ht, totalS, if_pos hr]
    rw [← hts] at hb
    have s1 : wrap64 (2 * t) = 2 * t := w64 _ ⟨by omega, by omega⟩
    have s2 : (2 * t).tdiv 3 = 2 * t / 3 := Int.tdiv_eq_ediv_of_nonneg (by omega)
    have s3 : wrap64 (2 * t / 3 + 1) = 2 * t / 3 + 1 := w64 _ ⟨by omega, by omega⟩
    have s4 : wrap64 (2 * t / 3) = 2 * t / 3 := w64 _ ⟨by omega, by omega⟩
    have hq : quorumS V = 2 * t / 3 + 1 := by rw [quorumS, if_pos hr, hts]
    rw [hq]
    have HR := Lib.hid (And.intro hr ht)
    clear hr ht hts hq hb
    go_enter Tryz.func89, Tryz.ntmps89
    go_wp2_with fail
    refine (check_is w A c B V es HV.out.1 HV.out.2.1 HV.out.2.2.1 HV.out.2.2.2.2).mono ?_
    rintro e w1 ⟨hk1, ⟨_, rfl⟩ | ⟨h, _⟩⟩
    · have HK := Lib.hid hk1
      clear hk1
      go_wp2_with fail
      refine (total_is w1 A c B V es (HV.out.1.grown HK.out) HV.out.2.1 HV.out.2.2.1 (Nat.le_trans HV.out.2.2.2.1 HK.out.size) (HV.out.2.2.2.2.above (grown_above HK.out) HV.out.2.2.2.1)).mono ?_
      rintro e w3 ⟨rfl, hk3⟩
      rw [← HR.out.2]
      have HK3 := Lib.hid hk3
      clear hk3
      go_wp2_with fail
      go_ret
      refine ⟨by simp [s1, s3, s4], above_trans (grown_above HK.out) HK3.out⟩
    · rw [HR.out.1] at h; cases h
end Go.Proofs.YtmoebkdbnldbdaaGreatDoor
