/-
  WireNests: Take of lists of bytes, of what was written; SameLists.
-/
import Derived.Test.YtmmjpkijnecmcaaDoorNq
import Derived.Test.YtmmjpkijnecmcaaDoorBackPure
import Derived.Test.YtmmjpkijnecmcaaDoorGrow
import Derived.Test.YtmmjpkijnecmcaaDoorAlive
namespace Go.Proofs.YtmmjpkijnecmcaaDoor
open Go.RowKit

theorem info_bytes : (Tryd.prog.info? 27).map (fun i => (i.zero, i.size, i.bytes)) = some (some (.slice none 0 0), 1, 24) := by kernel_rfl
theorem enter_nb (args : Array Value) (w : World) : (callFunc 39 args).run Tryd.prog w = .ok (.enter 39 args) w := by kernel_rfl
theorem one_nb (B g s : Nat) (E : Nat → Addr) (hg : B ≤ g) (w1 : World) (e1 : Nat) (l1 : List UInt8) (n1 e2 : Nat) (l2 : List UInt8) (hp : pNum 1 e1 l1 = (n1, e2, l2)) (hr : RdIs w1 g s (evOf E e1) l1) (he : ErrVars [0, 1] w1 B E) :
    Calls Tryd.prog 39 #[.pointer (some ⟨g, 0, none⟩)] w1 fun en w' => en = .returned (.int .u8 (n1 : Int)) ∧ RdIs w' g s (evOf E e2) l2 ∧ w1.grownBy w' (some g) := by
  have hsm : n1 < 256 := by have := pNum_small (e := e1) (l := l1); rw [hp] at this; exact this
  have hw : IntKind.u8.wrap (n1 : Int) = (n1 : Int) := by rw [IntKind.wrap_u8]; omega
  go_enter Tryd.func39, Tryd.ntmps39
  go_wp2_with fail
  refine (rnum_is w1 B g s E e1 l1 1 n1 e2 l2 hp hr he hg).mono ?_
  rintro en w2 ⟨rfl, hr2, k2⟩
  go_wp2_with fail
  go_ret
  exact ⟨rfl, hr2, k2⟩
theorem nlast_ok (w : World) (B g s : Nat) (E : Nat → Addr) (x rest : List UInt8) (hx : x.length ≤ 255) (hs : s < w.heap.size) (hg : B ≤ g) (hr : RdIs w g s .nilIface (be 1 x.length ++ (x ++ rest))) (he : ErrVars [0, 1] w B E) :
    Calls Tryd.prog 38 #[.pointer (some ⟨g, 0, none⟩)] w fun en w' => ∃ A c, en = .returned (.slice A x.length c) ∧ BytesAt w' A x ∧ (∀ ad, A = some ad → w.heap.size ≤ ad.block) ∧ RdIs w' g s .nilIface rest ∧ w.grownBy w' (some g) := by
  have Hp := Lib.hid (pTake_app x rest 255 (by omega) hx)
  have Hr := Lib.hid hr
  have He := Lib.hid he
  clear hr he
  go_enter Tryd.func38, Tryd.ntmps38
  go_wp2_with fail
  refine (take_u8 w B g s E _ enter_nb (one_nb B g s E hg) 255 0 _ _ 0 rest Hp.out hs hg Hr.out He.out).mono ?_
  rintro en w1 ⟨A, c, rfl, hown, hlow, hr1, k1⟩
  rw [cells_bytes, List.length_map] at hown
  rw [List.length_map]
  have Hown := Lib.hid hown
  have Hlow := Lib.hid hlow
  have Hr1 := Lib.hid hr1
  clear hown hlow hr1
  go_wp2_with fail
  go_ret
  exact ⟨A, c, rfl, own_bytesAt Hown.out, Hlow.out, Hr1.out, k1⟩
theorem enter_n2 (args : Array Value) (w : World) : (callFunc 38 args).run Tryd.prog w = .ok (.enter 38 args) w := by kernel_rfl

/-- A row of lists of bytes under way: its elements' bytes lie above N, apart from the row. -/
def RowL (w : World) (N : Nat) (A : Option Addr) (n c : Nat) (cells : List Value) (ys : List (List UInt8)) : Prop :=
  w.ownsRow 0 27 1 (.slice A n c) n cells ∧ (∀ ad, A = some ad → N ≤ ad.block) ∧ cells.length = ys.length ∧ ∀ j (_ : j < ys.length), ∃ B cB, cells[j]? = some (.slice B ys[j].length cB) ∧ BytesAt w B ys[j] ∧ ∀ ad, B = some ad → ys[j] ≠ [] → N ≤ ad.block ∧ (Value.slice A n c).ownBlock ≠ some ad.block
theorem RowL.nil (w : World) (N : Nat) : RowL w N none 0 0 [] [] := ⟨World.ownsRow_nil _ _ _ _, (fun _ e => by cases e), rfl, fun j hj => absurd hj (by simp)⟩
theorem rowL_step {wr w5 w6 : World} {N g lb k : Nat} {A A' B : Option Addr} {c c' cB : Nat} {cells : List Value} {ys : List (List UInt8)} {x : List UInt8} (hgN : g < N) (hlN : lb < N) (hNr : N ≤ wr.heap.size) (h : RowL wr N A k c cells ys)
    (k5 : wr.drew.grownBy w5 (some g)) (hB : BytesAt w5 B x) (hBl : ∀ ad, B = some ad → wr.heap.size ≤ ad.block)
    (hown6 : w6.ownsRow 0 27 1 (.slice A' (k + 1) c') (k + 1) (cells ++ [.slice B x.length cB]))
    (k6 : (w5.alloc (.cells #[.slice B x.length cB] 27)).grownBy w6 (Value.slice A k c).ownBlock)
    (hat : (Value.slice A' (k + 1) c').ownBlock = (Value.slice A k c).ownBlock ∨ (Value.slice A' (k + 1) c').ownBlock = some (w5.alloc (.cells #[.slice B x.length cB] 27)).heap.size) (v : Value) :
    RowL (w6.setCell ⟨lb, 0, none⟩ v) N A' (k + 1) c' (cells ++ [.slice B x.length cB]) (ys ++ [x]) := by
  obtain ⟨hown, hA, hcl, hel⟩ := h
  have z5 : wr.heap.size ≤ w5.heap.size := k5.size
  have hza : (w5.alloc (.cells #[.slice B x.length cB] 27)).heap.size = w5.heap.size + 1 := by simp
  have hO : ∀ j, (Value.slice A k c).ownBlock = some j → N ≤ j ∧ j < wr.heap.size := fun j hj => ⟨by
    rcases A with _ | ad
    · simp [Value.ownBlock] at hj
    · have e : ad.block = j := by simpa [Value.ownBlock] using hj
      subst e; exact hA ad rfl, (hown.lt j hj).2⟩
  have hO' : ∀ j, (Value.slice A' (k + 1) c').ownBlock = some j → N ≤ j := fun j hj => by
    rcases hat with h | h
    · exact (hO j (h.symm.trans hj)).1
    · have := Option.some.inj (h.symm.trans hj); omega
  have KA : Kept (fun j => (Value.slice A k c).ownBlock = some j) w5 w6 := ((Kept.refl _ w5).alloc (.cells #[.slice B x.length cB] 27)).follow (Kept.of_grown (F := fun j => (Value.slice A k c).ownBlock = some j) k6 (fun _ e => e)) (fun _ _ h => h)
  have KS : Kept (fun j => j = lb) w6 (w6.setCell ⟨lb, 0, none⟩ v) := (Kept.refl (fun j => j = lb) w6).set (p := ⟨lb, 0, none⟩) (.inl rfl) _
  have K5 : Kept (fun j => (Value.slice A k c).ownBlock = some j ∨ j = lb) w5 (w6.setCell ⟨lb, 0, none⟩ v) := (KA.mono (G := fun j => (Value.slice A k c).ownBlock = some j ∨ j = lb) (fun _ _ h => .inl h)).follow KS (fun _ _ h => .inr h)
  have K0 : Kept (fun j => j = g ∨ (Value.slice A k c).ownBlock = some j ∨ j = lb) wr (w6.setCell ⟨lb, 0, none⟩ v) :=
    (((Kept.refl (fun j => j = g ∨ (Value.slice A k c).ownBlock = some j ∨ j = lb) wr).drew).follow (Kept.of_grown (F := fun j => j = g) k5 fun j e => by injection e with e; exact e.symm) (fun _ _ h => .inl h)).follow K5 (fun _ _ h => .inr h)
  refine ⟨own_kept hown6 KS (fun j hj e => by have := hO' j hj; have e2 : j = lb := e; omega), fun ad e => ?_, by simp [hcl], fun j hj => ?_⟩
  · subst e; exact hO' ad.block rfl
  · by_cases hjy : j < ys.length
    · obtain ⟨B1, c1, h1, h2, h3⟩ := hel j hjy
      refine ⟨B1, c1, ?_, ?_, ?_⟩
      · rw [List.getElem?_append_left (by omega), h1, List.getElem_append_left hjy]
      · rw [List.getElem_append_left hjy]
        exact h2.kept' K0 (fun ad e hne hf => by
          obtain ⟨q1, q2⟩ := h3 ad e hne
          rcases hf with hf | hf | hf
          · omega
          · exact q2 hf
          · omega)
      · rw [List.getElem_append_left hjy]
        intro ad e hne
        obtain ⟨q1, q2⟩ := h3 ad e hne
        refine ⟨q1, fun hf => ?_⟩
        rcases hat with h | h
        · exact q2 (h.symm.trans hf)
        · have := h2.lt ad e hne
          have := Option.some.inj (h.symm.trans hf)
          omega
    · have hje : j = ys.length := by simp at hj; omega
      subst hje
      have hxe : (ys ++ [x])[ys.length] = x := by simp
      refine ⟨B, cB, ?_, ?_, ?_⟩
      · rw [hxe, ← hcl]; simp
      · rw [hxe]
        exact hB.kept' K5 (fun ad e hne hf => by
          have := hBl ad e
          rcases hf with hf | hf
          · have := hO _ hf; omega
          · omega)
      · rw [hxe]
        intro ad e hne
        have q1 := hBl ad e
        refine ⟨by omega, fun hf => ?_⟩
        rcases hat with h | h
        · have := hO _ (h.symm.trans hf); omega
        · have := hB.lt ad e hne
          have := Option.some.inj (h.symm.trans hf)
          omega

set_option maxRecDepth 100000 in
set_option maxHeartbeats 1000000 in
theorem loop_l (w : World) (B g s : Nat) (E : Nat → Addr) (lb nb rb ob : Nat) (xs : List (List UInt8)) (n : Nat) (hnx : xs.length = n) (hn : n ≤ 255) (hx : ∀ x ∈ xs, x.length ≤ 255)
    (h0 : Blk w lb 67 #[.slice none 0 0]) (h1 : w.cell? ⟨nb, 0, none⟩ = some (.int .i64 (n : Int))) (h2 : w.cell? ⟨rb, 0, none⟩ = some (.pointer (some ⟨g, 0, none⟩))) (h3 : w.cell? ⟨ob, 0, none⟩ = some (.func (.func 38) #[] #[]))
    (d1 : nb ≠ lb) (d2 : rb ≠ lb) (d3 : ob ≠ lb) (d4 : g ≠ lb) (d5 : s ≠ lb) (d6 : nb ≠ g) (d7 : rb ≠ g) (d8 : ob ≠ g) (hs : s < w.heap.size) (hgw : g < w.heap.size) (hB : B ≤ lb) (hg : B ≤ g)
    (hr : RdIs w g s .nilIface (wantsL xs)) (he : ErrVars [0, 1] w B E) :
    Calls Tryd.prog 65 #[.pointer (some ⟨lb, 0, none⟩), .pointer (some ⟨nb, 0, none⟩), .pointer (some ⟨rb, 0, none⟩), .pointer (some ⟨ob, 0, none⟩)] w fun en w' => en = .returned (.tuple #[]) ∧
      (RdIs w' g s .nilIface [] ∧ (∃ A c cells, Blk w' lb 67 #[.slice A n c] ∧ RowL w' w.heap.size A n c cells xs) ∧ Kept (fun k => k = g ∨ k = lb) w w') := by
  obtain ⟨i0, hi, hz0, hz1, hz2⟩ := info_parts info_bytes
  have He := Lib.hid he
  have Hn := Lib.hid hnx
  have Hx := Lib.hid hx
  have D : Hid ((nb ≠ lb ∧ rb ≠ lb ∧ ob ≠ lb ∧ g ≠ lb ∧ s ≠ lb) ∧ nb ≠ g ∧ rb ≠ g ∧ ob ≠ g) := ⟨⟨d1, d2, d3, d4, d5⟩, d6, d7, d8⟩
  have Hs := Lib.hid hs
  have hlb : lb < w.heap.size := h0.lt
  clear he hnx hx d1 d2 d3 d4 d5 d6 d7 d8 hs
  go_enter Tryd.func65, Tryd.ntmps65
  go_wp2_with fail
  go_loopw [] (fun wr => ∃ (k : Nat) (A : Option Addr) (c : Nat) (cells : List Value), k ≤ n ∧ RdIs wr g s .nilIface (wantsL (xs.drop k)) ∧
      Blk wr lb 67 #[.slice A k c] ∧ RowL wr w.heap.size A k c cells (xs.take k) ∧ Kept (fun k => k = g ∨ k = lb) w wr) (fun wr => n - (match wr.cell? ⟨lb, 0, none⟩ with | some (.slice _ m _) => m | _ => 0))
  case atStart => exact ⟨0, none, 0, [], Nat.zero_le _, hr, h0, RowL.nil w _, Kept.refl _ _⟩
  case round =>
    obtain ⟨k, A, c, cells, hk, hr1, hb1, hrow, K1⟩ := hrel
    have c0 : wr.cell? ⟨lb, 0, none⟩ = some (.slice A k c) := hb1.cell 0
    have c1 := K1.cell h1 (by rintro (h | h); exact D.out.2.1 h; exact D.out.1.1 h)
    have c2 := K1.cell h2 (by rintro (h | h); exact D.out.2.2.1 h; exact D.out.1.2.1 h)
    have c3 := K1.cell h3 (by rintro (h | h); exact D.out.2.2.2 h; exact D.out.1.2.2.1 h)
    have hr1' := hr1
    obtain ⟨rA, rc, hrb, _, _, _⟩ := hr1'
    have c4 : wr.cell? ⟨g, 0, none⟩ = some .nilIface := hrb.cell 0
    have he1 := He.out.kept K1 (by rintro j (h | h) <;> omega)
    have He1 := Lib.hid he1
    have HRow := Lib.hid hrow
    have HK1 := Lib.hid K1
    clear hrb he1 hrow
    by_cases hlt : k < n
    · have b1 : decide ((k : Int) < (n : Int)) = true := by simp; omega
      have hkx : k < xs.length := by have := Hn.out; omega
      have hdk : xs.drop k = xs[k] :: xs.drop (k + 1) := List.drop_eq_getElem_cons hkx
      have htk : xs.take (k + 1) = xs.take k ++ [xs[k]] := List.take_succ_eq_append_getElem hkx
      have hxl : (xs[k]).length ≤ 255 := Hx.out _ (List.getElem_mem hkx)
      rw [hdk, wantsL_cons] at hr1
      have Htk := Lib.hid htk
      have Hown := Lib.hid HRow.out.1
      have Hr1 := Lib.hid hr1
      have Hb1 := Lib.hid hb1
      have Hxl := Lib.hid hxl
      clear hr1 hb1 hdk htk hxl
      generalize xs[k] = x at *
      obtain ⟨rest, hrest⟩ : ∃ r, r = wantsL (xs.drop (k + 1)) := ⟨_, rfl⟩
      rw [← hrest] at Hr1
      have Hrest := Lib.hid hrest
      clear hrest
      have hA : ∀ j, (Value.slice A k c).ownBlock = some j → w.heap.size ≤ j := fun j hj => by
        rcases A with _ | ad
        · simp [Value.ownBlock] at hj
        · have e2 : ad.block = j := by simpa [Value.ownBlock] using hj
          subst e2; exact HRow.out.2.1 ad rfl
      have own5 : ∀ w5, wr.drew.grownBy w5 (some g) → w5.ownsRow 0 27 1 (.slice A k c) k cells := fun w5 k5 => own_kept (own_kept Hown.out (Kept.refl (fun _ => False) wr).drew (fun _ _ h => h)) (Kept.of_grown (F := fun j => j = g) k5 fun j e => by injection e with e; exact e.symm) (fun j hj e => by
        have := hA j hj
        have e2 : j = g := e
        omega)
      have Own5 := Lib.hid own5
      clear own5
      have blk5 : ∀ w5, wr.drew.grownBy w5 (some g) → Blk w5 lb 67 #[.slice A k c] := fun w5 k5 => Hb1.out.drew.kept (Kept.of_grown (F := fun j => j = g) k5 fun j e => by injection e with e; exact e.symm) (fun e => D.out.1.2.2.2.1 e.symm)
      have blk6 : ∀ w5 w6 u, wr.drew.grownBy w5 (some g) → (w5.alloc (.cells #[u] 27)).grownBy w6 (Value.slice A k c).ownBlock → Blk w6 lb 67 #[.slice A k c] := fun w5 w6 u k5 k6 =>
        ((blk5 w5 k5).alloc _).kept (Kept.of_grown (F := fun j => w.heap.size ≤ j) k6 hA) (by omega)
      have Blk5 := Lib.hid blk5
      have Blk6 := Lib.hid blk6
      have HA := Lib.hid hA
      have hsr : s < wr.heap.size := by have := Hs.out; have := K1.size; omega
      clear blk5 blk6 hA
      go_wp2_with fail
      go_region_law (first
          | (refine step_append_one _ (by rfl) _ _ _ (by rfl) 0 27 i0 _ 24 Tryd.underlying67 hi hz0 hz1 hz2 rfl _ k _ (by rfl) ((Own5.out w5 k5).alloc _) ⟨w5.heap.size, 0, none⟩ 1 (.slice B5 x.length cB) (by rfl) (Blk.cell (Blk.new _ _ _) 0) rfl (by omega) (by omega) (Nat.zero_le _) ?_; intro A' c' w6 hown6 k6 hat6; have q6 : w6.cell? ⟨lb, 0, none⟩ = some (.slice A k c) := (Blk6.out w5 w6 _ k5 k6).cell 0; have q7 : w6.frozen? ⟨lb, 0, none⟩ = false := (Blk6.out w5 w6 _ k5 k6).frozen 0)
          | ((try go_simp); refine (nlast_ok wr.drew B g s E x rest Hxl.out hsr hg Hr1.out.drew (He1.out.grown (grown_drew (World.grownBy.refl _ none)) (fun _ e => by cases e))).mono ?_; rintro en w5 ⟨B5, cB, rfl, hb5, hl5, hr5, k5⟩; have q4 : w5.cell? ⟨lb, 0, none⟩ = some (.slice A k c) := (Blk5.out w5 k5).cell 0; have q5 : (w5.alloc (.cells #[.slice B5 x.length cB] 27)).cell? ⟨lb, 0, none⟩ = some (.slice A k c) := ((Blk5.out w5 k5).alloc _).cell 0))
      all_goals
        have KX : Kept (fun j => w.heap.size ≤ j) w5 w6 := ((Kept.refl _ w5).alloc (.cells #[.slice B5 x.length cB] 27)).follow (Kept.of_grown (F := fun j => w.heap.size ≤ j) k6 HA.out) (fun _ _ h => h)
        have KS : Kept (fun j => j = lb) w6 (w6.setCell ⟨lb, 0, none⟩ (.slice A' (k + 1) c')) := (Kept.refl (fun j => j = lb) w6).set (p := ⟨lb, 0, none⟩) (.inl rfl) _
        have fin : RdIs (w6.setCell ⟨lb, 0, none⟩ (.slice A' (k + 1) c')) g s .nilIface rest ∧ Blk (w6.setCell ⟨lb, 0, none⟩ (.slice A' (k + 1) c')) lb 67 #[.slice A' (k + 1) c'] ∧ RowL (w6.setCell ⟨lb, 0, none⟩ (.slice A' (k + 1) c')) w.heap.size A' (k + 1) c' (cells ++ [.slice B5 x.length cB]) (xs.take (k + 1)) ∧ Kept (fun k => k = g ∨ k = lb) w (w6.setCell ⟨lb, 0, none⟩ (.slice A' (k + 1) c')) := by
          have hsz := HK1.out.size
          refine ⟨(hr5.kept KX (by omega) (by have := Hs.out; omega)).kept KS D.out.1.2.2.2.1 D.out.1.2.2.2.2, ?_, ?_, ?_⟩
          · have h := (Blk6.out w5 w6 _ k5 k6).set 0 (.slice A' (k + 1) c')
            simpa using h
          · rw [Htk.out]
            exact rowL_step hgw hlb hsz HRow.out k5 hb5 hl5 hown6 k6 hat6 _
          · exact ((HK1.out.drew.follow (Kept.of_grown (F := fun j => j = g ∨ j = lb) k5 fun j e => by injection e with e; exact .inl e.symm) (fun _ _ h => h)).follow KX (fun j hj h => by omega)).follow KS (fun _ _ h => .inr h)
        have Fin := Lib.hid fin
        clear fin q6 q7 hr5 hb5 hl5 hown6 hat6 k6 KX KS
        go_wp2_with fail
        go_roundw
        case rel => exact ⟨k + 1, A', c', _, by omega, by rw [← Hrest.out]; exact Fin.out.1, Fin.out.2.1, Fin.out.2.2.1, Fin.out.2.2.2⟩
        case measure =>
          have hc := Fin.out.2.1.cell 0
          simp at hc
          rw [hc, c0]
          simp
          omega
    · have b1 : decide ((k : Int) < (n : Int)) = false := by simp; omega
      have hkn : k = n := by omega
      subst hkn
      have e1 : xs.drop k = [] := List.drop_eq_nil_of_le (by have := Hn.out; omega)
      have e2 : xs.take k = xs := List.take_of_length_le (by have := Hn.out; omega)
      rw [e1] at hr1
      rw [e2] at HRow
      have hr2 : RdIs wr g s .nilIface [] := hr1
      clear hr1 e1 e2
      go_wp2_with fail
      go_end0
      exact ⟨rfl, hr2, ⟨A, c, cells, hb1, HRow.out⟩, K1⟩
theorem enter_l (args : Array Value) (w : World) : (callFunc 65 args).run Tryd.prog w = .ok (.enter 65 args) w := by kernel_rfl

set_option maxRecDepth 100000 in
set_option maxHeartbeats 1000000 in
theorem take_l (w : World) (B g s : Nat) (E : Nat → Addr) (xs : List (List UInt8)) (n : Nat) (hnx : xs.length = n) (hn : n ≤ 255) (hx : ∀ x ∈ xs, x.length ≤ 255)
    (hs : s < w.heap.size) (hg : B ≤ g) (hr : RdIs w g s .nilIface (be 1 n ++ wantsL xs)) (he : ErrVars [0, 1] w B E) :
    Calls Tryd.prog 37 #[.pointer (some ⟨g, 0, none⟩), .int .i64 255, .func (.func 38) #[] #[]] w fun en w' => ∃ A c N cells, en = .returned (.slice A n c) ∧ RowL w' N A n c cells xs ∧ RdIs w' g s .nilIface [] ∧ w.grownBy w' (some g) := by
  have hgw : g < w.heap.size := by obtain ⟨A, c, hb, _⟩ := hr; exact hb.lt
  have hmf : ∀ (fn : Fn) (first cap : Array Value) (w : World), (Instr.makeFunc fn first cap).run Tryd.prog w = .ok (.func fn first cap) w := fun _ _ _ _ => rfl
  have Hq := Lib.hid (pNum_be 1 n (wantsL xs) (by omega) (by omega) (by omega) (by omega))
  have Hn := Lib.hid hnx
  have Hx := Lib.hid hx
  have Hr := Lib.hid hr
  have He := Lib.hid he
  have k1 : Kept (fun _ => False) w ((w.alloc (.cells #[.pointer (some ⟨g, 0, none⟩)] 39)).alloc (.cells #[.func (.func 38) #[] #[]] 73)) := ((Kept.refl _ w).alloc _).alloc _
  have z1 : ((w.alloc (.cells #[.pointer (some ⟨g, 0, none⟩)] 39)).alloc (.cells #[.func (.func 38) #[] #[]] 73)).heap.size = w.heap.size + 2 := by simp
  have d1 : ((w.alloc (.cells #[.pointer (some ⟨g, 0, none⟩)] 39)).alloc (.cells #[.func (.func 38) #[] #[]] 73)).cell? ⟨w.heap.size, 0, none⟩ = some (.pointer (some ⟨g, 0, none⟩)) := ((Blk.new w 39 #[.pointer (some ⟨g, 0, none⟩)]).alloc _).cell 0
  have d2 : ((w.alloc (.cells #[.pointer (some ⟨g, 0, none⟩)] 39)).alloc (.cells #[.func (.func 38) #[] #[]] 73)).cell? ⟨w.heap.size + 1, 0, none⟩ = some (.func (.func 38) #[] #[]) := by
    have h := (Blk.new (w.alloc (.cells #[.pointer (some ⟨g, 0, none⟩)] 39)) 73 #[.func (.func 38) #[] #[]]).cell 0
    have z : (w.alloc (.cells #[.pointer (some ⟨g, 0, none⟩)] 39)).heap.size = w.heap.size + 1 := by simp
    rw [z] at h
    exact h
  clear hnx hx hr he
  go_enter Tryd.func37, Tryd.ntmps37
  go_wp2_with fail
  generalize (w.alloc (.cells #[.pointer (some ⟨g, 0, none⟩)] 39)).alloc (.cells #[.func (.func 38) #[] #[]] 73) = W1 at *
  have hr1 := Hr.out.kept k1 (fun h => h) (fun h => h)
  have he1 := He.out.kept k1 (fun _ h => h.elim)
  refine (rnum_is W1 B g s E 0 _ 1 n 0 _ Hq.out hr1 (he1.sub (by decide)) hg).mono ?_
  rintro en w2 ⟨rfl, hr2, k2⟩
  have lt2 := k2.size
  have K2 := (k1.mono (G := fun j => j = g) (fun _ _ h => h.elim)).follow (Kept.of_grown (F := fun j => j = g) k2 fun j e => by injection e with e; exact e.symm) (fun _ _ h => h)
  have kb := (Kept.refl (fun _ => False) w2).alloc (.cells #[.int .i64 (n : Int)] 3)
  have zb : (w2.alloc (.cells #[.int .i64 (n : Int)] 3)).heap.size = w2.heap.size + 1 := by simp
  have g1 := kb.cell (k2.cell d1 (by simp; omega)) (fun h => h)
  have g2 := kb.cell (k2.cell d2 (by simp; omega)) (fun h => h)
  have g3 : (w2.alloc (.cells #[.int .i64 (n : Int)] 3)).cell? ⟨w2.heap.size, 0, none⟩ = some (.int .i64 (n : Int)) := (Blk.new w2 3 #[.int .i64 (n : Int)]).cell 0
  have KB := K2.follow kb (fun _ _ h => h.elim)
  have Hrb := Lib.hid (hr2.kept kb (fun h => h) (fun h => h))
  have heb := (he1.grown k2 (fun j e => by injection e with e; omega)).kept kb (fun _ h => h.elim)
  have Heb := Lib.hid heb
  clear hr1 he1 hr2 heb d1 d2
  have t1 : decide ((255 : Int) < (n : Int)) = false := by simp; omega
  have t1' : ¬ (255 < n) := by omega
  have hb4 := Blk.new (w2.alloc (.cells #[.int .i64 (n : Int)] 3)) 67 #[.slice none 0 0]
  rw [zb] at hb4
  have z4 : ((w2.alloc (.cells #[.int .i64 (n : Int)] 3)).alloc (.cells #[.slice none 0 0] 67)).heap.size = (w2.heap.size + 1) + 1 := by simp
  have K4 := KB.alloc (.cells #[.slice none 0 0] 67)
  have h1' := ((Kept.refl (fun _ => False) (w2.alloc (.cells #[.int .i64 (n : Int)] 3))).alloc (.cells #[.slice none 0 0] 67)).cell g1 (fun h => h)
  have h2' := ((Kept.refl (fun _ => False) (w2.alloc (.cells #[.int .i64 (n : Int)] 3))).alloc (.cells #[.slice none 0 0] 67)).cell g2 (fun h => h)
  have h3' := ((Kept.refl (fun _ => False) (w2.alloc (.cells #[.int .i64 (n : Int)] 3))).alloc (.cells #[.slice none 0 0] 67)).cell g3 (fun h => h)
  have hr4 := Hrb.out.kept ((Kept.refl (fun _ => False) (w2.alloc (.cells #[.int .i64 (n : Int)] 3))).alloc (.cells #[.slice none 0 0] 67)) (fun h => h) (fun h => h)
  have he4 := Heb.out.kept ((Kept.refl (fun _ => False) (w2.alloc (.cells #[.int .i64 (n : Int)] 3))).alloc (.cells #[.slice none 0 0] 67)) (fun _ h => h.elim)
  have lt3 := KB.size
  go_wp2_with fail
  generalize (w2.alloc (.cells #[.int .i64 (n : Int)] 3)).alloc (.cells #[.slice none 0 0] 67) = w4 at *
  have KF := (Kept.refl (fun _ => False) w4).alloc (.cells #[.pointer (some ⟨g, 0, none⟩)] 90)
  have zF : (w4.alloc (.cells #[.pointer (some ⟨g, 0, none⟩)] 90)).heap.size = w4.heap.size + 1 := by simp
  refine (attempt_ok ⟨g, 0, none⟩ 65 _ w4 _ enter_l (loop_l _ B g s E (w2.heap.size + 1) w2.heap.size w.heap.size (w.heap.size + 1) xs n Hn.out hn Hx.out (hb4.kept KF (fun h => h)) (KF.cell h3' (fun h => h)) (KF.cell h1' (fun h => h)) (KF.cell h2' (fun h => h))
    (by omega) (by omega) (by omega) (by omega) (by omega) (by omega) (by omega) (by omega) (by omega) (by omega) (by omega) hg (hr4.kept KF (fun h => h) (fun h => h)) (he4.kept KF (fun _ h => h.elim)))).mono ?_
  rintro en w5 ⟨rfl, hr5, ⟨A, c, cells, hb5, hrow5⟩, K5⟩
  have K45 : Kept (fun j => j = g ∨ j = (w2.heap.size + 1)) w4 w5 := (KF.mono (G := fun j => j = g ∨ j = (w2.heap.size + 1)) (fun _ _ h => h.elim)).follow K5 (fun _ _ h => h)
  have b1 := K45.cell h1' (by simp; omega)
  have b2 : w5.cell? ⟨(w2.heap.size + 1), 0, none⟩ = some (.slice A n c) := hb5.cell 0
  have hr5' := hr5
  obtain ⟨rA, rc, hrb, _, _, _⟩ := hr5'
  have b3 : w5.cell? ⟨g, 0, none⟩ = some .nilIface := hrb.cell 0
  have HG : Hid (w.grownBy w5 (some g)) := (K4.follow K45 (by rintro j hj (h | h); exact h; omega)).grownSome
  have HRow := Lib.hid hrow5
  have Hr5 := Lib.hid hr5
  clear hrow5 hr5 hrb hb5 hb4 h1' h2' h3' hr4 he4
  go_wp2_with fail
  go_ret
  exact ⟨A, c, _, cells, rfl, HRow.out, Hr5.out, HG.out⟩

/-! ### SameLists -/
def LsAt (w : World) (A : Option Addr) (xs : List (List UInt8)) : Prop :=
  xs ≠ [] → ∃ b off, A = some ⟨b, off, none⟩ ∧ ∀ j (_ : j < xs.length), ∃ B c, w.cell? ⟨b, off + j, none⟩ = some (.slice B xs[j].length c) ∧ BytesAt w B xs[j]
theorem LA.ls {w : World} {N : Nat} {A : Option Addr} {xs : List (List UInt8)} (h : LA w N A xs) : LsAt w A xs := fun hne => by
  obtain ⟨b, off, e, _, hc⟩ := h hne
  exact ⟨b, off, e, fun j hj => by obtain ⟨B, c, h1, h2, _⟩ := hc j hj; exact ⟨B, c, h1, h2⟩⟩
theorem RowL.ls {w : World} {N : Nat} {A : Option Addr} {n c : Nat} {cells : List Value} {xs : List (List UInt8)} (h : RowL w N A n c cells xs) : LsAt w A xs := fun hne => by
  obtain ⟨hown, _, hcl, hel⟩ := h
  have hn : cells.length = n := by have := hown.1; simpa using this
  obtain ⟨g, cap, hv⟩ := Joins.ownsRow_form hown (by have := List.length_pos_iff.2 hne; omega)
  have hA : A = some ⟨g, 0, none⟩ := by injection hv
  refine ⟨g, 0, hA, fun j hj => ?_⟩
  obtain ⟨B, cB, h1, h2, _⟩ := hel j hj
  have h3 := hown.cells (g := g) (by rw [hv]; rfl) j _ h1
  rw [Go.WideShapes.add_plain] at h3
  exact ⟨B, cB, h3, h2⟩
theorem LsAt.grown {w w' : World} {A : Option Addr} {xs : List (List UInt8)} (h : LsAt w A xs) (hk : w.grownBy w' none) : LsAt w' A xs := fun hne => by
  obtain ⟨b, off, e, hc⟩ := h hne
  exact ⟨b, off, e, fun j hj => by obtain ⟨B, c, h1, h2⟩ := hc j hj; exact ⟨B, c, hk.cell h1 (by simp), h2.grown hk (by simp)⟩⟩

set_option maxRecDepth 100000 in
set_option maxHeartbeats 1000000 in
theorem samelists_is (w : World) (A1 A2 : Option Addr) (c1 c2 n : Nat) (xs : List (List UInt8)) (hn : xs.length = n) (hnb : n ≤ 1000000) (h1 : LsAt w A1 xs) (h2 : LsAt w A2 xs) :
    Calls Tryd.prog 40 #[.slice A1 n c1, .slice A2 n c2] w fun e w' => e = .returned (.bool true) ∧ w.grownBy w' none := by
  have H1 := Lib.hid h1
  have H2 := Lib.hid h2
  have HN := Lib.hid hn
  clear h1 h2 hn
  go_enter Tryd.func40, Tryd.ntmps40
  go_wp2_with fail
  go_loopw [13] (fun i wr => ∃ k : Nat, k ≤ n ∧ i = .int .i64 (k : Int) ∧ w.grownBy wr none) (fun i _ => n - (intOf i).toNat)
  case atStart => exact ⟨0, by omega, rfl, World.grownBy.refl w none⟩
  case round =>
    obtain ⟨k, hk, hi, hK⟩ := hrel
    obtain ⟨I, hI⟩ : ∃ I : Int, I = (k : Int) := ⟨_, rfl⟩
    rw [← hI] at hi
    subst hi
    by_cases hlt : k < n
    · have d1 : decide (I < (n : Int)) = true := by simp; omega
      have hkx : k < xs.length := by have := HN.out; omega
      obtain ⟨b1, o1, rfl, q1⟩ := (H1.out.grown hK) (by rintro rfl; simp at hkx)
      obtain ⟨b2, o2, rfl, q2⟩ := (H2.out.grown hK) (by rintro rfl; simp at hkx)
      obtain ⟨B1, e1, f1, x1⟩ := q1 k hkx
      obtain ⟨B2, e2, f2, x2⟩ := q2 k hkx
      have hkI : I.toNat = k := by omega
      generalize xs[k] = y at *
      rw [← hkI] at f1 f2
      have g1 := Gr.cell f1
      have g2 := Gr.cell f2
      have v1 : ∀ z : Gr wr, Sem.run Tryd.prog (convert 27 9 (.slice B1 y.length e1)) z.1 = .ok (.string ⟨y.toArray⟩) z.1 := fun z => toString_any (x1.grown z.2 (by simp)) rfl
      have v2 : ∀ z : Gr wr, Sem.run Tryd.prog (convert 27 9 (.slice B2 y.length e2)) z.1 = .ok (.string ⟨y.toArray⟩) z.1 := fun z => toString_any (x2.grown z.2 (by simp)) rfl
      have hI68 : 0 ≤ I ∧ I < (n : Int) := by omega
      have HI := Lib.hid (And.intro hI hlt)
      have HG := Lib.hid hK
      clear hI hlt hkI hK hk q1 q2 hkx f1 f2 x1 x2
      go_wp2_with fail
      refine wp_region_grown (by kernel_rfl) (by kernel_rfl) ?_
      repeat (go_big_quiet_step (fail))
      refine wpQuiet_nil ?_
      rintro w2 ⟨⟨_, k2⟩, rfl⟩
      have HG2 := Lib.hid (grown_trans HG.out k2)
      clear k2 v1 v2 g1 g2
      go_wp2_with fail
      go_roundw
      case rel =>
        obtain ⟨hI, hlt⟩ := HI.out
        exact ⟨k + 1, by omega, by rw [hI]; go_num, HG2.out⟩
      case measure => obtain ⟨hI, hlt⟩ := HI.out; simp [intOf]; omega
    · have d1 : decide (I < (n : Int)) = false := by simp; omega
      have HG := Lib.hid hK
      clear hlt hI hK hk
      go_wp2_with fail
      go_ret
      exact ⟨rfl, HG.out⟩
end Go.Proofs.YtmmjpkijnecmcaaDoor
