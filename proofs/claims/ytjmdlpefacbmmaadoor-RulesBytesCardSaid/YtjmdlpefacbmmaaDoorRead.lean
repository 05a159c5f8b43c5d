/-
  The contracts of package wire's Reader: NewReader, next, Number.
-/
import Derived.Test.YtjmdlpefacbmmaaDoorWire2
namespace Go.Proofs.YtjmdlpefacbmmaaDoor
open Go.RowKit

/-! ### cuts of a slice of bytes -/
def cutA (A : Option Addr) (c k : Nat) : Option Addr := if c = k then A else A.map (·.add k)
theorem bytes_size (w : World) : (sizeOf (Tryd.prog.elem 36)).run Tryd.prog w = .ok 1 w := by kernel_rfl
theorem bytes_slice : Tryd.prog.underlying 36 = some (.slice (Tryd.prog.elem 36)) := by kernel_rfl
theorem slice_to (A : Option Addr) (n c k : Nat) (hk : k ≤ c) (w : World) :
    (Instr.slice 36 (.slice A n c) none (some (.int .i64 (k : Int))) none).run Tryd.prog w = .ok (.slice A k c) w := by
  rw [run_slice_h w 36 A n c bytes_slice .i64 (k : Int) (by omega) (by omega), bytes_size]
  have : (if c = 0 then A else A.map (·.add (0 * 1))) = A := by
    split
    · rfl
    · cases A <;> simp [Addr.add]
  simp [Result.andThen, sliced, this]
theorem slice_from (A : Option Addr) (n c k : Nat) (hk : k ≤ n) (w : World) :
    (Instr.slice 36 (.slice A n c) (some (.int .i64 (k : Int))) none none).run Tryd.prog w = .ok (.slice (cutA A c k) (n - k) (c - k)) w := by
  rw [run_slice_l w 36 A n c bytes_slice .i64 (k : Int) (by omega) (by omega), bytes_size]
  simp [Result.andThen, sliced, cutA]
theorem cutA_block {A : Option Addr} {c k : Nat} {ad : Addr} (h : cutA A c k = some ad) : ∃ a0, A = some a0 ∧ ad.block = a0.block := by
  unfold cutA at h
  split at h
  · exact ⟨ad, h, rfl⟩
  · cases A with
    | none => cases h
    | some a0 => injection h with h; subst h; exact ⟨a0, rfl, block_add a0 k⟩
theorem add_add (a : Addr) (i j : Nat) : (a.add i).add j = a.add (i + j) := by
  unfold Addr.add
  by_cases hi : i = 0 <;> by_cases hj : j = 0 <;> simp [hi, hj, Nat.add_assoc]
theorem BytesAt.take {w : World} {A : Option Addr} {l : List UInt8} (h : BytesAt w A l) (k : Nat) : BytesAt w A (l.take k) := fun hl => by
  obtain ⟨ad, rfl, hc⟩ := h (by rintro rfl; simp at hl)
  exact ⟨ad, rfl, fun j hj => by rw [List.getElem_take]; exact hc j (by simp at hj; omega)⟩
theorem BytesAt.drop {w : World} {A : Option Addr} {l : List UInt8} (h : BytesAt w A l) {c : Nat} (hc : l.length ≤ c) (k : Nat) : BytesAt w (cutA A c k) (l.drop k) := fun hl => by
  have hk : k < l.length := by
    rcases Nat.lt_or_ge k l.length with h | h
    · exact h
    · exact absurd (List.drop_eq_nil_iff.2 h) hl
  obtain ⟨ad, rfl, hcell⟩ := h (by rintro rfl; simp at hk)
  unfold cutA
  rw [if_neg (by omega)]
  refine ⟨ad.add k, rfl, fun j hj => ?_⟩
  rw [add_add, List.getElem_drop]
  exact hcell _ _

/-! ### the Reader -/
/-- The Reader at block g holds the error value ev; the bytes l are left, in the row s. -/
def RdIs (w : World) (g s : Nat) (ev : Value) (l : List UInt8) : Prop :=
  ∃ A c, Blk w g 86 #[ev, .slice A l.length c] ∧ BytesAt w A l ∧ l.length ≤ c ∧ ∀ ad, A = some ad → ad.block = s ∧ s ≠ g
theorem RdIs.drew {w : World} {g s : Nat} {ev : Value} {l : List UInt8} (h : RdIs w g s ev l) : RdIs w.drew g s ev l := h
theorem BytesAt.set {w : World} {A : Option Addr} {l : List UInt8} (h : BytesAt w A l) {p : Addr} (u : Value) (hA : ∀ ad, A = some ad → ad.block ≠ p.block) : BytesAt (w.setCell p u) A l :=
  h.keep fun ad e _ i => World.cell?_of_block (Below.heap_setCell w p u _ (by rw [block_add]; exact hA ad e))
theorem RdIs.failed {w : World} {g s : Nat} {ev u : Value} {l : List UInt8} (h : RdIs w g s ev l) : RdIs (w.setCell ⟨g, 0, none⟩ u) g s u l := by
  obtain ⟨A, c, hb, hl, hc, hA⟩ := h
  exact ⟨A, c, by simpa using hb.set 0 u, hl.set u (fun ad e => by rw [(hA ad e).1]; exact (hA ad e).2), hc, hA⟩
theorem RdIs.kept {w w' : World} {F : Nat → Prop} {g s : Nat} {ev : Value} {l : List UInt8} (h : RdIs w g s ev l) (hk : Kept F w w') (hg : ¬ F g) (hs : ¬ F s) : RdIs w' g s ev l := by
  obtain ⟨A, c, hb, hl, hc, hA⟩ := h
  exact ⟨A, c, hb.kept hk hg, hl.kept hk (fun ad e => by rw [(hA ad e).1]; exact hs), hc, hA⟩
theorem RdIs.grown {w w' : World} {g s : Nat} {ev : Value} {l : List UInt8} (h : RdIs w g s ev l) (hk : w.grownBy w' none) : RdIs w' g s ev l :=
  h.kept (F := fun _ => False) (Kept.of_grown hk fun _ e => by cases e) (fun h => h) (fun h => h)

set_option maxHeartbeats 400000 in
theorem next_ok (w : World) (g s : Nat) (l : List UInt8) (n : Nat) (hr : RdIs w g s .nilIface l) (hn : n ≤ l.length) :
    Calls Tryd.prog 48 #[.pointer (some ⟨g, 0, none⟩), .int .i64 (n : Int)] w fun e w' => ∃ A c, e = .returned (.slice A n c) ∧ BytesAt w' A (l.take n) ∧ n ≤ c ∧ (∀ ad, A = some ad → ad.block = s) ∧ RdIs w' g s .nilIface (l.drop n) ∧ w.grownBy w' (some g) := by
  obtain ⟨A, c, hb, hl, hc, hA⟩ := hr
  have c0 := hb.cell 0
  have c1 := hb.cell 1
  have f1 := hb.frozen 1
  simp at c0 c1
  have s1 := slice_to A l.length c n (by omega)
  have s2 := slice_from A l.length c n hn
  have hlt : decide (((l.length : Nat) : Int) < (n : Int)) = false := by simp; omega
  go_enter Tryd.func48, Tryd.ntmps48
  go_wp2
  go_ret
  refine ⟨A, c, rfl, ?_, by omega, fun ad e => (hA ad e).1, ⟨cutA A c n, c - n, ?_, ?_, ?_, ?_⟩, ?_⟩
  · exact (hl.take n).set _ (fun ad e => by rw [(hA ad e).1]; exact (hA ad e).2)
  · have := hb.set 1 (.slice (cutA A c n) (l.length - n) (c - n))
    simpa using this
  · exact (hl.drop hc n).set _ (fun ad e => by
      obtain ⟨a0, e0, hb0⟩ := cutA_block e
      rw [hb0, (hA a0 e0).1]; exact (hA a0 e0).2)
  · simp; omega
  · intro ad e
    obtain ⟨a0, e0, hb0⟩ := cutA_block e
    exact ⟨hb0.trans (hA a0 e0).1, (hA a0 e0).2⟩
  · exact ⟨rfl, rfl, rfl, by simp [World.setCell], fun k _ hne => (Below.heap_setCell w ⟨g, 1, none⟩ _ k (fun e => hne (by rw [e])))⟩

set_option maxHeartbeats 400000 in
theorem next_short (w : World) (B g s : Nat) (l : List UInt8) (a : Addr) (n : Int) (hr : RdIs w g s .nilIface l) (hn : (l.length : Int) < n) (he : ErrAt w B 2 a) :
    Calls Tryd.prog 48 #[.pointer (some ⟨g, 0, none⟩), .int .i64 n] w fun e w' => e = .returned (.slice none 0 0) ∧ RdIs w' g s (errV a) l ∧ w.grownBy w' (some g) := by
  have hr' := hr
  obtain ⟨A, c, hb, hl, hc, hA⟩ := hr'
  have c0 := hb.cell 0
  have c1 := hb.cell 1
  simp at c0 c1
  have hs := he.1
  have hlt : decide (((l.length : Nat) : Int) < n) = true := by simp; omega
  have Hr := Lib.hid hr
  go_enter Tryd.func48, Tryd.ntmps48
  go_wp2_with fail
  go_region_with (go_at_call 43; refine (fail_new _ g 86 _ _ (.slice A l.length c) ?_).mono ?_; exact hb.drew; rintro e w1 ⟨rfl, rfl⟩)
  all_goals
    have d0 := (hb.drew.set 0 (errV a)).cell 0
    simp at d0
    go_wp2
    go_ret
    exact ⟨rfl, Hr.out.failed, grown_set _ _⟩

set_option maxHeartbeats 400000 in
theorem next_err (w : World) (B g s : Nat) (t : TypeId) (v : Value) (l : List UInt8) (a : Addr) (n : Int) (hr : RdIs w g s (.iface t v) l) (he : ErrAt w B 2 a) :
    Calls Tryd.prog 48 #[.pointer (some ⟨g, 0, none⟩), .int .i64 n] w fun e w' => e = .returned (.slice none 0 0) ∧ w.grownBy w' none := by
  obtain ⟨A, c, hb, hl, hc, hA⟩ := hr
  have c0 := hb.cell 0
  have c1 := hb.cell 1
  simp at c0 c1
  have hs := he.1
  by_cases hlt : (l.length : Int) < n
  · go_enter Tryd.func48, Tryd.ntmps48
    go_wp2_with fail
    go_region_with (go_at_call 43; refine (fail_old _ g 86 t v (.slice A l.length c) _ ?_).mono ?_; exact hb.drew; rintro e w1 ⟨rfl, rfl⟩)
    all_goals
      go_wp2
      go_ret
      exact ⟨rfl, rfl, rfl, rfl, Nat.le_refl _, fun _ _ _ => rfl⟩
  · go_enter Tryd.func48, Tryd.ntmps48
    go_wp2
    go_ret
    exact ⟨rfl, rfl, rfl, rfl, Nat.le_refl _, fun _ _ _ => rfl⟩

theorem reader_new (w : World) (A : Option Addr) (n c : Nat) (l : List UInt8) (hn : l.length = n) (hl : BytesAt w A l) (hlen : n ≤ 140737488355328) :
    Calls Tryd.prog 35 #[.slice A n c] w fun e w' => ∃ g s, e = .returned (.pointer (some ⟨g, 0, none⟩)) ∧ RdIs w' g s .nilIface l ∧ w.heap.size ≤ g ∧ g < w'.heap.size ∧ w.heap.size ≤ s ∧ s < w'.heap.size ∧ w.grownBy w' none := by
  go_enter Tryd.func35, Tryd.ntmps35
  go_wp2_with fail
  refine (clone_any _ A n c l hn hl hlen).mono ?_
  rintro e w1 ⟨A', c', rfl, hown, k1⟩
  go_wp2_with fail
  go_ret
  have hz := k1.size
  subst hn
  have hcap : l.length ≤ c' := by
    rcases hown.2 with ⟨h, h0⟩ | ⟨g', cap, cur, h, _, _, h0, _⟩
    · omega
    · injection h with _ _ h; omega
  have key : ∃ s, w.heap.size ≤ s ∧ s < w1.heap.size + 1 ∧ ∀ ad, A' = some ad → ad.block = s ∧ s ≠ w1.heap.size := by
    rcases A' with _ | ad
    · exact ⟨w1.heap.size, hz, by omega, fun _ e => by cases e⟩
    · have := hown.lt ad.block rfl
      exact ⟨ad.block, this.1, by omega, fun ad' e => by injection e with e; subst e; exact ⟨rfl, by omega⟩⟩
  obtain ⟨s, h1, h2, h3⟩ := key
  exact ⟨_, s, rfl, ⟨A', c', Blk.new _ _ _, (own_bytesAt hown).alloc _, hcap, h3⟩, hz, by simp, h1, by simpa using h2, grown_trans k1 (World.grownBy_alloc _ _ _)⟩

end Go.Proofs.YtjmdlpefacbmmaaDoor
