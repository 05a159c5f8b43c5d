/-
  Several texts in one: CdMi, CdD.
-/
import Derived.Test.YtebnebajedlhlaaDoorM9iu
import Derived.Test.YtebnebajedlhlaaDoorM9iw
import Derived.Deep.DeepCutAuto
/-
  Pieces of a message in memory; a block out of three.
-/
namespace Go.Proofs.YtebnebajedlhlaaDoor
open Go.RowKit

theorem range_head {w : World} {g o : Nat} {a b : List Value} (h : w.rangeAt g o (a ++ b)) : w.rangeAt g o a := fun j v hv => h j v (by
  have hj := (List.getElem?_eq_some_iff.1 hv).1
  rw [List.getElem?_append_left hj]; exact hv)
theorem range_tail {w : World} {g o : Nat} {a b : List Value} (h : w.rangeAt g o (a ++ b)) : w.rangeAt g (o + a.length) b := fun j v hv => by
  have := h (a.length + j) v (by rw [List.getElem?_append_right (by omega), Nat.add_sub_cancel_left]; exact hv)
  rwa [← Nat.add_assoc] at this
theorem sz_TC : (Tryd.prog.info? 53).map (·.size) = some 3 := by kernel_rfl
theorem sz_Vt : (Tryd.prog.info? 50).map (·.size) = some 22 := by kernel_rfl
theorem sz_To : (Tryd.prog.info? 55).map (·.size) = some 28 := by kernel_rfl
theorem sz_Pp : (Tryd.prog.info? 57).map (·.size) = some 46 := by kernel_rfl
theorem sz_Wt : (Tryd.prog.info? 43).map (·.size) = some 32 := by kernel_rfl
theorem sz_Cg : (Tryd.prog.info? 62).map (·.size) = some 136 := by kernel_rfl
theorem sz_Ms : (Tryd.prog.info? 64).map (·.size) = some 304 := by kernel_rfl
theorem sz_Bk : (Tryd.prog.info? 30).map (·.size) = some 39 := by kernel_rfl
theorem index_st {P : Program} (w : World) {t e : TypeId} {m n : Nat} {fs : Array Field} (ht : P.underlying t = some (.array n e)) (he : P.underlying e = some (.struct fs)) (hs : (P.info? e).map (·.size) = some m) (cs vs : Array Value) (I : Int) (k : Nat) (hI : I = (k : Int)) (hk : k < n) (hv : (cs.toList.drop (k * m)).take m = vs.toList) :
    Sem.run P (Instr.index t (.agg cs) (.int .i64 I)) w = .ok (.agg vs) w := by
  cases hq : P.info? e with
  | none => simp [hq] at hs
  | some i =>
    have hi : i.size = m := by simpa [hq] using hs
    have hb : 0 ≤ I ∧ I < (n : Int) := by omega
    have hn : I.toNat = k := by omega
    have hv' : cs.extract (k * m) (k * m + m) = vs := by
      apply Array.toList_inj.1
      rw [← hv, Array.toList_extract, List.extract_eq_take_drop, Nat.add_sub_cancel_left]
    simp [Instr.index, run_underlying ht, asIntOf, hb, hn, sizeOf, typeInfo, hq, hi, part, isAgg, run_underlying he, hv']
theorem zBk_run : ∃ Z : Array Value, Z.size = 39 ∧ ∀ w : World, Sem.run Tryd.prog (zeroValue 30) w = .ok (.agg Z) w :=
  ⟨(Bk.val ⟨0, 0, List.replicate 16 0, ⟨0, 0, List.replicate 16 0, none, 0, []⟩, none, 0, [], none, 0, []⟩), rfl, fun w => zero_run3 w (by kernel_rfl)⟩
theorem Bk.one (b : Bk) : (b.val.all fun v => v.oneCell') = true := by simp [Bk.val, Qc.val, arrV, Value.oneCell']
def Cg.row (x : Cg) : List Bk := [x.b1, x.b2, x.b3]
theorem sz_arr3 : (Tryd.prog.info? 60).map (·.size) = some 117 := by kernel_rfl
theorem Cg.drop {w : World} {x : Cg} (h : x.At w) (k : Nat) (hk : k < 3) (bl : Array Value) (hbl : bl = x.b1.val ++ (x.b2.val ++ x.b3.val)) : (bl.toList.drop (k * 39)).take 39 = (x.row.getD k x.b1).val.toList := by
  have h1 := Bk.size h.1
  have h2 := Bk.size h.2.1
  have h3 := Bk.size h.2.2.1
  have e1 : x.b1.val.toList.length = 39 := by rw [Array.length_toList, h1]
  have e2 : x.b2.val.toList.length = 39 := by rw [Array.length_toList, h2]
  have e3 : x.b3.val.toList.length = 39 := by rw [Array.length_toList, h3]
  rw [hbl, Array.toList_append, Array.toList_append]
  have hk3 : k = 0 ∨ k = 1 ∨ k = 2 := by omega
  rcases hk3 with rfl | rfl | rfl
  · show (List.drop 0 _).take 39 = x.b1.val.toList
    rw [List.drop_zero, List.take_append_of_le_length (by omega), List.take_of_length_le (by omega)]
  · show (List.drop 39 _).take 39 = x.b2.val.toList
    rw [List.drop_append_of_le_length (by omega), List.drop_of_length_le (by omega), List.nil_append, List.take_append_of_le_length (by omega), List.take_of_length_le (by omega)]
  · show (List.drop 78 _).take 39 = x.b3.val.toList
    rw [List.drop_append, List.drop_append, List.drop_of_length_le (by omega), List.drop_of_length_le (by omega), List.nil_append, List.nil_append, e1, e2, List.drop_zero, List.take_of_length_le (by omega)]
end Go.Proofs.YtebnebajedlhlaaDoor
/-
  A digest that is written.
-/
namespace Go.Proofs.YtebnebajedlhlaaDoor
open Go.RowKit

theorem dg_bytes {w : World} {q : Nat} {t : TypeId} {d : List Int} (hd : isDig d) (h : Blk w q t (arrV .u8 d)) : BytesAt w (some ⟨q, 0, none⟩) (dgB d) := fun _ => ⟨_, rfl, fun j hj => by
  have hj2 : j < d.length := by rwa [dgB_length] at hj
  rw [addr_zero_add, h.cell]
  have hz := hd.2 d[j] (List.getElem_mem hj2)
  have e : (((UInt8.ofNat d[j].toNat).toNat : Nat) : Int) = d[j] := by
    rw [UInt8.toNat_ofNat', Nat.mod_eq_of_lt (by omega)]
    omega
  simp only [dgB, List.getElem_map, e]
  simp [arrV, List.getElem?_eq_getElem hj2]⟩
theorem BytesAt.drew {w : World} {A : Option Addr} {l : List UInt8} (h : BytesAt w A l) : BytesAt w.drew A l := h
section
variable {w0 w : World} {E : Nat → Addr} {g : Nat} {F : Nat → Prop} {s : WSt}
set_option maxRecDepth 100000 in
set_option maxHeartbeats 1000000 in
theorem digest_st (h : WI w0 E g F s w) (hs : s.2.length ≤ 70368744177664) (d : List Int) (hd : isDig d) (dd : Array Value) (hdd : dd = arrV .u8 d) :
    Calls Tryd.prog 23 #[.agg #[.pointer (some ⟨g, 0, none⟩)], .agg dd] w fun e w' => e = .returned (.tuple #[]) ∧ WP w0 E g F (sDig d s) w w' := by
  have h16 : dd.size = 16 := by rw [hdd, arr_size, hd.1]
  obtain ⟨W1, hW1⟩ : ∃ W1, (w.alloc (.cells #[.pointer (some ⟨g, 0, none⟩)] 71)).alloc (.cells dd 23) = W1 := ⟨_, rfl⟩
  have g1 : w.grownBy W1 none := by rw [← hW1]; exact grown_trans (World.grownBy_alloc _ _ none) (World.grownBy_alloc _ _ none)
  have bw : Blk W1 w.heap.size 71 #[.pointer (some ⟨g, 0, none⟩)] := by rw [← hW1]; exact (Blk.new w _ _).alloc _
  have bx : Blk W1 (w.heap.size + 1) 23 dd := by
    have := Blk.new (w.alloc (.cells #[.pointer (some ⟨g, 0, none⟩)] 71)) 23 dd
    rw [← hW1]; simpa using this
  have hx : BytesAt W1 (some ⟨w.heap.size + 1, 0, none⟩) (dgB d) := dg_bytes hd (hdd ▸ bx)
  have P1 := h.grown g1
  have c0 : W1.cell? ⟨w.heap.size, 0, none⟩ = some (.pointer (some ⟨g, 0, none⟩)) := by simpa using bw.cell 0
  have hsl := dig_slice
  have hl16 : (dgB d).length = 16 := by rw [dgB_length, hd.1]
  have HQ := Lib.hid (fixed_st P1.drew.wi hs (some ⟨w.heap.size + 1, 0, none⟩) 16 16 (dgB d) hl16 (by omega) hx.drew)
  have HP := Lib.hid P1
  have HW := Lib.hid hW1
  clear hx P1 hd hdd bx bw g1 hW1 h hl16
  go_enter Tryd.func23, Tryd.ntmps23
  go_upto_region 1 with (fail)
  rw [HW.out]
  go_region_with (go_at_call 41; refine HQ.out.mono ?_; rintro e w1 ⟨rfl, q⟩; replace q := Lib.hid q)
  all_goals
    go_wp2
    first | go_end0 | refine bodyPost_ret (results_none rfl _ _ _) rfl ?_
    exact ⟨rfl, HP.out.drew.trans q.out⟩
theorem el_Dg (_he : ErrAt w0 w0.heap.size 1 (E 0)) (h : WI w0 E g F s w) (hs : s.2.length ≤ 3500000) (x : List Int) (hx : isDig x) (cs : Array Value) (hcs : cs = (dgV x).toArray) :
    Calls Tryd.prog 23 #[.agg #[.pointer (some ⟨g, 0, none⟩)], .agg cs] w fun e w' => e = .returned (.tuple #[]) ∧ WP w0 E g F (sDig x s) w w' :=
  digest_st h (by omega) x hx cs (by rw [hcs, dgV_arr])
end
end Go.Proofs.YtebnebajedlhlaaDoor
