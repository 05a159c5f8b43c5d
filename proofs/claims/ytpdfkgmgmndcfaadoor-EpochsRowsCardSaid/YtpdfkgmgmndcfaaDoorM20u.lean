/-
  Several texts in one: CdD, Attempt0.
-/
import Derived.Deep.DeepCutAuto
import Derived.Test.YtpdfkgmgmndcfaaDoorM20d
import Derived.Test.YtpdfkgmgmndcfaaDoorM20t
import Derived.Test.YtpdfkgmgmndcfaaDoorM20c
import Derived.Recover
import Derived.Defers
/-
  A digest that is written.
-/
namespace Go.Proofs.YtpdfkgmgmndcfaaDoor
open Go.RowKit

theorem dg_bytes {w : World} {q : Nat} {t : TypeId} {d : List Int} (hd : isDig d) (h : Blk w q t (arrV .u8 d)) : BytesAt w (some ⟨q, 0, none⟩) (dgB d) := fun _ => ⟨_, rfl, fun j hj => by
  have hj2 : j < d.length := by rwa [dgB_length] at hj
  rw [addr_zero_addK20, h.cell]
  have hz := hd.2 d[j] (List.getElem_mem hj2)
  have e : (((UInt8.ofNat d[j].toNat).toNat : Nat) : Int) = d[j] := by
    rw [UInt8.toNat_ofNat', Nat.mod_eq_of_lt (by omega)]
    omega
  simp only [dgB, List.getElem_map, e]
  simp [arrV, List.getElem?_eq_getElem hj2]⟩
theorem BytesAt.drew {w : World} {A : Option Addr} {l : List UInt8} (h : BytesAt w A l) : BytesAt w.drew A l := h
section
variable {w0 w : World} {E : Nat → Addr} {g : Nat} {F : Nat → Prop} {s : WSt}
set_option maxRecDepth 100000 in
set_option maxHeartbeats 1000000 in
theorem digest_st (h : WI w0 E g F s w) (hs : s.2.length ≤ 70368744177664) (d : List Int) (hd : isDig d) (dd : Array Value) (hdd : dd = arrV .u8 d) :
    Calls Tryd.prog 45 #[.agg #[.pointer (some ⟨g, 0, none⟩)], .agg dd] w fun e w' => e = .returned (.tuple #[]) ∧ WP w0 E g F (sDig d s) w w' := by
  have h16 : dd.size = 16 := by rw [hdd, arr_size, hd.1]
  obtain ⟨W1, hW1⟩ : ∃ W1, (w.alloc (.cells #[.pointer (some ⟨g, 0, none⟩)] 85)).alloc (.cells dd 24) = W1 := ⟨_, rfl⟩
  have g1 : w.grownBy W1 none := by rw [← hW1]; exact grown_trans (World.grownBy_alloc _ _ none) (World.grownBy_alloc _ _ none)
  have bw : Blk W1 w.heap.size 85 #[.pointer (some ⟨g, 0, none⟩)] := by rw [← hW1]; exact (Blk.new w _ _).alloc _
  have bx : Blk W1 (w.heap.size + 1) 24 dd := by
    have := Blk.new (w.alloc (.cells #[.pointer (some ⟨g, 0, none⟩)] 85)) 24 dd
    rw [← hW1]; simpa using this
  have hx : BytesAt W1 (some ⟨w.heap.size + 1, 0, none⟩) (dgB d) := dg_bytes hd (hdd ▸ bx)
  have P1 := h.grown g1
  have c0 : W1.cell? ⟨w.heap.size, 0, none⟩ = some (.pointer (some ⟨g, 0, none⟩)) := by simpa using bw.cell 0
  have hsl := dig_slice
  have hl16 : (dgB d).length = 16 := by rw [dgB_length, hd.1]
  have HQ := Lib.hid (fixed_st P1.drew.wi hs (some ⟨w.heap.size + 1, 0, none⟩) 16 16 (dgB d) hl16 (by omega) hx.drew)
  have HP := Lib.hid P1
  have HW := Lib.hid hW1
  clear hx P1 hd hdd bx bw g1 hW1 h hl16
  go_enter Tryd.func45, Tryd.ntmps45
  go_upto_region 1 with (fail)
  rw [HW.out]
  go_region_with (go_at_call 56; refine HQ.out.mono ?_; rintro e w1 ⟨rfl, q⟩; replace q := Lib.hid q)
  all_goals
    go_wp2
    first | go_end0 | refine bodyPost_ret (results_none rfl _ _ _) rfl ?_
    exact ⟨rfl, HP.out.drew.trans q.out⟩
theorem el_Dg (_he : ErrAt w0 w0.heap.size 3 (E 0)) (h : WI w0 E g F s w) (hs : s.2.length ≤ 3500000) (x : List Int) (hx : isDig x) (cs : Array Value) (hcs : cs = (dgV x).toArray) :
    Calls Tryd.prog 45 #[.agg #[.pointer (some ⟨g, 0, none⟩)], .agg cs] w fun e w' => e = .returned (.tuple #[]) ∧ WP w0 E g F (sDig x s) w w' :=
  digest_st h (by omega) x hx cs (by rw [hcs, dgV_arr])
end
end Go.Proofs.YtpdfkgmgmndcfaaDoor
/-
  attempt: a call that ends without a panic ends so, and its deferred closure does nothing.
-/
namespace Go.Proofs.YtpdfkgmgmndcfaaDoor
open Go.RowKit

theorem catch_idle0 (p : Addr) (w : World) :
    CallsD Tryd.prog 76 #[.pointer (some p)] .returning w fun e u' w' => e = .returned (.tuple #[]) ∧ u' = .returning ∧ w' = w := by
  refine callsD_of_wpS Tryd.func76 rfl fun c₀ cs hu => ?_
  apply wpS_seq
  apply wpS_region
  simp [wpOpsS, go_sem, recoverD, hu, Tryd.ntmps76, Exit.thenS]
  refine wpS_cond (t := false) (by simp [Act.eval, Array.replicate]) ?_
  simp only [Bool.false_eq_true, if_false]
  refine wpS_of_wp (wp_skip ?_)
  cases c₀
  simp_all [bodyPostS, results, Tryd.results76]

set_option maxRecDepth 100000 in
theorem attempt_ok0 (p : Addr) (fn : FuncId) (caps : Array Value) (w : World) (R : World → Prop) (hE : ∀ (args : Array Value) (w : World), (callFunc fn args).run Tryd.prog w = .ok (.enter fn args) w)
    (hC : Calls Tryd.prog fn caps (w.alloc (.cells #[.pointer (some p)] 133)) fun e w' => e = .returned (.tuple #[]) ∧ R w') :
    Calls Tryd.prog 71 #[.pointer (some p), .func (.func fn) #[] caps] w fun e w' => e = .returned (.tuple #[]) ∧ R w' := by
  have HC := Lib.hid hC
  clear hC
  have hmf : ∀ (fn : Fn) (first cap : Array Value) (w : World), (Instr.makeFunc fn first cap).run Tryd.prog w = .ok (.func fn first cap) w := fun _ _ _ _ => rfl
  go_enter_defers Tryd.func71, Tryd.ntmps71
  go_wp2_with fail
  refine HC.out.mono ?_
  rintro e w1 ⟨rfl, hR⟩
  go_wp2_with fail
  refine leaves_cons (f := 76) (args := #[.pointer (some ⟨w.heap.size, 0, none⟩)]) (by simp) (by simp [go_sem]) ?_
  refine (catch_idle0 ⟨w.heap.size, 0, none⟩ _).mono ?_
  rintro e u' w'' ⟨rfl, rfl, rfl⟩
  exact ⟨_, results_none rfl _ _ _, rfl, hR⟩
end Go.Proofs.YtpdfkgmgmndcfaaDoor
