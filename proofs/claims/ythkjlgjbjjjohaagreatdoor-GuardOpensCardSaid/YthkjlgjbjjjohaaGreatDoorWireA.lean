/-
  Several texts in one: Wire, Wire2, Read, Read2, ReadErr, Read3.
-/
import Derived.Test.YthkjlgjbjjjohaaGreatDoorErrA
import Derived.Deep.QuietTactic
import Derived.BigQuiet
import Derived.Deep.RegionWith
import Derived.Laws.BitsAllLaws
import Derived.Laws.BitsLemmas
/-
  The contracts of package wire's Writer: what each call leaves of the Writer's block and of the bytes that it owns.
-/
namespace Go.Proofs.YthkjlgjbjjjohaaGreatDoor
open Go.RowKit

theorem w_u8_info : (Tryz.prog.info? 5).map (fun i => (i.zero, i.size, i.bytes)) = some (some (.int .u8 0), 1, 1) := by kernel_rfl

/-- The Writer at block g holds the error value ev and the bytes l; it, and the row of the bytes, lie among the blocks F. -/
def WrIs (w : World) (F : Nat → Prop) (g : Nat) (ev : Value) (l : List UInt8) : Prop :=
  F g ∧ ∃ bA bc, Blk w g 193 #[ev, .slice bA l.length bc] ∧ w.ownsRow 0 5 1 (.slice bA l.length bc) l.length (Lib.byteCells l) ∧ ∀ ad, bA = some ad → F ad.block
theorem WrIs.mono {w : World} {F G : Nat → Prop} {g : Nat} {ev : Value} {l : List UInt8} (h : WrIs w F g ev l) (hF : ∀ k, k < w.heap.size → F k → G k) : WrIs w G g ev l := by
  obtain ⟨hg, bA, bc, hb, hown, hA⟩ := h
  exact ⟨hF g hb.lt hg, bA, bc, hb, hown, by rintro ad rfl; exact hF _ (hown.lt ad.block rfl).2 (hA ad rfl)⟩

theorem own_in {F : Nat → Prop} {A : Option Addr} {n c k : Nat} (hF : ∀ ad, A = some ad → F ad.block) (h : (Value.slice A n c).ownBlock = some k) : F k := by
  rcases A with _ | ad
  · simp [Value.ownBlock] at h
  · have : ad.block = k := by simpa [Value.ownBlock] using h
    rw [← this]; exact hF ad rfl

set_option maxHeartbeats 400000 in
theorem write_ok (w : World) (F : Nat → Prop) (g : Nat) (l : List UInt8) (A : Option Addr) (m c : Nat) (x : List UInt8) (hm : x.length = m) (hw : WrIs w F g .nilIface l) (hx : BytesAt w A x)
    (hn : l.length + x.length ≤ 140737488355328) :
    Calls Tryz.prog 115 #[.pointer (some ⟨g, 0, none⟩), .slice A m c] w fun e w' => e = .returned (.tuple #[]) ∧ WrIs w' (upTo F w.heap.size w'.heap.size) g .nilIface (l ++ x) ∧ Kept F w w' := by
  subst hm
  obtain ⟨hBg, bA, bc, hb, hown, hF⟩ := hw
  obtain ⟨i0, hi, hz0, hz1, hz2⟩ := info_parts w_u8_info
  have c0 := hb.cell 0
  have c1 := hb.cell 1
  simp at c0 c1
  go_enter Tryz.func115, Tryz.ntmps115
  go_wp2_with (at_builtin; refine wpList_append_bytes _ rfl _ _ 49 rfl 0 5 i0 (.int .u8 0) Tryz.underlying49 hi hz0 hz1 hz2 rfl _ _ _ rfl hown A c x rfl hx hn (Nat.zero_le _) ?_)
  intro A' cap' w1 hown1 hgrow hat
  have hb1 : Blk w1 g 193 #[.nilIface, .slice bA l.length bc] := hb.grown hgrow (own_ne hown hb (by decide)).symm
  have d1 := hb1.cell 1
  have f1 := hb1.frozen 1
  simp at d1
  go_wp2
  go_end0
  refine ⟨rfl, ⟨.inl hBg, A', cap', ?_, ?_, ?_⟩, (Kept.of_grown hgrow fun k hk => own_in hF hk).set (.inl hBg) _⟩
  · have := hb1.set 1 (.slice A' (l.length + x.length) cap')
    simpa [List.length_append] using this
  · have := own_far hown1 hb1 (by decide) 1 (.slice A' (l.length + x.length) cap')
    rw [Lib.byteCells_append, List.length_append]
    exact this
  · rintro ad rfl
    have hlt := (hown1.lt ad.block rfl).2
    rcases hat with h | h
    · exact .inl (own_in hF h.symm)
    · have : ad.block = w.heap.size := by simpa [Value.ownBlock] using h
      exact .inr ⟨by omega, by simpa [World.setCell] using hlt⟩

set_option maxHeartbeats 400000 in
theorem write_err (w : World) (F : Nat → Prop) (g : Nat) (t : TypeId) (v : Value) (l : List UInt8) (A : Option Addr) (n c : Nat) (hw : WrIs w F g (.iface t v) l) :
    Calls Tryz.prog 115 #[.pointer (some ⟨g, 0, none⟩), .slice A n c] w fun e w' => e = .returned (.tuple #[]) ∧ w = w' := by
  obtain ⟨hBg, bA, bc, hb, hown, hF⟩ := hw
  have c0 := hb.cell 0
  simp at c0
  go_enter Tryz.func115, Tryz.ntmps115
  go_wp2
  go_end0
  exact ⟨rfl, rfl⟩

/-- The low k bytes of n, high byte first. -/
def be : Nat → Nat → List UInt8
  | 0, _ => []
  | k + 1, n => UInt8.ofNat (n / 256 ^ k) :: be k n

theorem WrIs.alloc {w : World} {F : Nat → Prop} {g : Nat} {ev : Value} {l : List UInt8} (h : WrIs w F g ev l) (o : Obj) : WrIs (w.alloc o) F g ev l := by
  obtain ⟨hBg, bA, bc, hb, hown, hF⟩ := h
  exact ⟨hBg, bA, bc, hb.alloc o, hown.alloc o, hF⟩
theorem be_length : ∀ k n, (be k n).length = k
  | 0, _ => rfl
  | k + 1, n => by simp [be, be_length k n]
theorem pow256 (k : Nat) : (2 : Nat) ^ (8 * k) = 256 ^ k := by rw [Nat.pow_mul]
theorem shr_cast (n k : Nat) : (n : Int) / 2 ^ (8 * k) = ((n / 256 ^ k : Nat) : Int) := by
  rw [← pow256]; simp
theorem u8_shr (n k : Nat) : Value.int .u8 ((n : Int) / 2 ^ (8 * k) % 256) = .int .u8 ((UInt8.ofNat (n / 256 ^ k)).toNat : Nat) := by
  rw [shr_cast]; congr 1
theorem shr_zero {n k : Nat} (h : n < 256 ^ k) : (n : Int) / 2 ^ (8 * k) = 0 := by
  rw [shr_cast, Nat.div_eq_of_lt h]; rfl

set_option maxHeartbeats 400000 in
theorem number_ok (w : World) (F : Nat → Prop) (g : Nat) (l : List UInt8) (n width : Nat) (hw : WrIs w F g .nilIface l)
    (h1 : 1 ≤ width) (h8 : width ≤ 8) (hn : n < 256 ^ width) (hl : l.length ≤ 70368744177664) :
    Calls Tryz.prog 83 #[.pointer (some ⟨g, 0, none⟩), .int .i64 (n : Int), .int .i64 (width : Int)] w fun e w' => e = .returned (.tuple #[]) ∧ WrIs w' (upTo F w.heap.size w'.heap.size) g .nilIface (l ++ be width n) ∧ Kept F w w' := by
  have a1 : decide ((width : Int) < 1) = false := by simp; omega
  have a2 : decide ((8 : Int) < (width : Int)) = false := by simp; omega
  have a3 : decide ((n : Int) < 0) = false := by simp
  have a4 : (((n : Int) / 2 ^ (8 * width)) != 0) = false := by rw [shr_zero hn]; rfl
  go_enter Tryz.func83, Tryz.ntmps83
  go_wp2_with fail
  go_loopw [6] (fun i wr => ∃ k done, k ≤ width ∧ done ++ be k n = be width n ∧ i = .int .i64 ((k : Int) - 1) ∧ WrIs wr (upTo F w.heap.size wr.heap.size) g .nilIface (l ++ done) ∧ Kept F w wr) (fun i _ => (intOf i + 1).toNat)
  case atStart => exact ⟨width, [], Nat.le_refl _, rfl, rfl, by simpa using hw.mono fun k _ h => .inl h, Kept.refl _ _⟩
  case round =>
    obtain ⟨k, done, hk, hd, hi, hwr, hbel⟩ := hrel
    rcases k with _ | k
    · subst hi
      go_wp2_with fail
      go_end0
      refine ⟨rfl, ?_, hbel⟩
      rw [← hd]
      simpa [be] using hwr
    · have hi' := hi.trans (show Value.int .i64 (((k + 1 : Nat) : Int) - 1) = .int .i64 (k : Int) by congr 1; omega)
      clear hi
      subst hi'
      have hsz := hbel.size
      have hdl : done.length ≤ 8 := by have := congrArg List.length hd; rw [List.length_append, be_length, be_length] at this; omega
      have Hd := Lib.hid hd
      clear hd
      go_wp2_with fail
      refine (write_ok _ _ g (l ++ done) _ 1 _ [UInt8.ofNat (n / 256 ^ k)] rfl (hwr.alloc _) (BytesAt.one _ (u8_shr n k)) ?_).mono ?_
      · simp; omega
      rintro e w1 ⟨rfl, hwr1, hbel1⟩
      have hsz1 := hbel1.size
      simp at hsz1
      go_wp2_with fail
      go_roundw
      case rel => exact ⟨k, done ++ [UInt8.ofNat (n / 256 ^ k)], by omega, by rw [← Hd.out]; simp [be], by go_num, by simpa using hwr1.mono fun k _ h => upTo_alloc hsz hsz1 k (by simpa using h), (hbel.alloc _).trans (hbel1.mono fun k _ h => by simpa using upTo_more hsz k h)⟩
      case measure => simp [intOf]

/-! ### Fail, and the Writer in the state 'error' -/

theorem fail_new (w : World) (g : Nat) (t u : TypeId) (v x : Value) (hb : Blk w g t #[.nilIface, x]) :
    Calls Tryz.prog 112 #[.pointer (some ⟨g, 0, none⟩), .iface u v] w fun e w' => e = .returned (.tuple #[]) ∧ w' = w.setCell ⟨g, 0, none⟩ (.iface u v) := by
  have c0 := hb.cell 0
  have f0 := hb.frozen 0
  simp at c0
  go_enter Tryz.func112, Tryz.ntmps112
  go_wp2
  go_end0
  exact ⟨rfl, rfl⟩

theorem fail_old (w : World) (g : Nat) (t u : TypeId) (v x y : Value) (hb : Blk w g t #[.iface u v, x]) :
    Calls Tryz.prog 112 #[.pointer (some ⟨g, 0, none⟩), y] w fun e w' => e = .returned (.tuple #[]) ∧ w = w' := by
  have c0 := hb.cell 0
  simp at c0
  go_enter Tryz.func112, Tryz.ntmps112
  go_wp2
  go_end0
  exact ⟨rfl, rfl⟩

theorem WrIs.drew {w : World} {F : Nat → Prop} {g : Nat} {ev : Value} {l : List UInt8} (h : WrIs w F g ev l) : WrIs w.drew F g ev l := h
theorem WrIs.failed {w : World} {F : Nat → Prop} {g : Nat} {ev u : Value} {l : List UInt8} (h : WrIs w F g ev l) : WrIs (w.setCell ⟨g, 0, none⟩ u) F g u l := by
  obtain ⟨hBg, bA, bc, hb, hown, hF⟩ := h
  exact ⟨hBg, bA, bc, by simpa using hb.set 0 u, own_far hown hb (by decide) 0 u, hF⟩
theorem WrIs.grown {w w' : World} {F : Nat → Prop} {g : Nat} {ev : Value} {l : List UInt8} (h : WrIs w F g ev l) (hg : w.grownBy w' none) : WrIs w' F g ev l := by
  obtain ⟨hBg, bA, bc, hb, hown, hF⟩ := h
  exact ⟨hBg, bA, bc, hb.grown hg (by simp), hown.kept hg (by cases hv : (Value.slice bA l.length bc).ownBlock <;> simp), hF⟩
theorem WrIs.kept {w w' : World} {F G : Nat → Prop} {g : Nat} {ev : Value} {l : List UInt8} (h : WrIs w F g ev l) (hk : Kept G w w') (hn : ∀ k, F k → ¬ G k) : WrIs w' F g ev l := by
  obtain ⟨hBg, bA, bc, hb, hown, hF⟩ := h
  exact ⟨hBg, bA, bc, hb.kept hk (hn g hBg), own_kept hown hk fun k hk => hn k (own_in hF hk), hF⟩
/-- n does not fit the width. -/
def badNum (n width : Int) : Bool := decide (width < 1) || decide (8 < width) || decide (n < 0) || ((n / 2 ^ (8 * width.toNat)) != 0)

theorem badNum_cases {n width : Int} (h : badNum n width = true) :
    decide (width < 1) = true ∨ (decide (width < 1) = false ∧ decide (8 < width) = true) ∨ (decide (width < 1) = false ∧ decide (8 < width) = false ∧ decide (n < 0) = true) ∨
    ∃ k m : Nat, width = (k : Int) ∧ n = (m : Int) ∧ decide ((k : Int) < 1) = false ∧ decide ((8 : Int) < (k : Int)) = false ∧ k ≤ 8 ∧ (((m : Int) / 2 ^ (8 * k)) != 0) = true := by
  unfold badNum at h
  cases h1 : decide (width < 1)
  · cases h2 : decide (8 < width)
    · cases h3 : decide (n < 0)
      · have e1 : ((width.toNat : Nat) : Int) = width := by simp at h1; omega
        have e2 : ((n.toNat : Nat) : Int) = n := by simp at h3; omega
        refine .inr (.inr (.inr ⟨width.toNat, n.toNat, e1.symm, e2.symm, ?_, ?_, ?_, ?_⟩))
        · rw [e1]; exact h1
        · rw [e1]; exact h2
        · simp at h2; omega
        · rw [e2]; simpa [h1, h2, h3] using h
      · exact .inr (.inr (.inl ⟨rfl, rfl, rfl⟩))
    · exact .inr (.inl ⟨rfl, rfl⟩)
  · exact .inl rfl

set_option maxHeartbeats 400000 in
theorem number_bad (w : World) (F : Nat → Prop) (B0 g : Nat) (l : List UInt8) (a : Addr) (n width : Int) (hw : WrIs w F g .nilIface l) (he : ErrAt w B0 0 a) (hbad : badNum n width = true) :
    Calls Tryz.prog 83 #[.pointer (some ⟨g, 0, none⟩), .int .i64 n, .int .i64 width] w fun e w' => e = .returned (.tuple #[]) ∧ WrIs w' F g (errV a) l ∧ w.grownBy w' (some g) := by
  have hw' := hw
  obtain ⟨hBg, bA, bc, hb, hown, hF⟩ := hw'
  have hr := he.1
  have Hw := Lib.hid hw
  rcases badNum_cases hbad with a1 | ⟨a1, a2⟩ | ⟨a1, a2, a3⟩ | ⟨k, m, rfl, rfl, a1, a2, a3, a4⟩
  all_goals
    clear hbad
    go_enter Tryz.func83, Tryz.ntmps83
    go_wp2_with fail
    go_region_with (go_at_call 112; refine (fail_new _ g 193 _ _ (.slice bA l.length bc) ?_).mono ?_; exact hb.drew; rintro e w1 ⟨rfl, rfl⟩)
    all_goals
      go_wp2
      first | go_end0 | refine bodyPost_ret (results_none rfl _ _ _) rfl ?_
      exact ⟨rfl, Hw.out.failed, grown_set _ _⟩
end Go.Proofs.YthkjlgjbjjjohaaGreatDoor
/-
  More contracts of package wire's Writer: bytes.Clone, Done, Flag, Fixed, Bytes; the Writer with an error.
-/

namespace Go.Proofs.YthkjlgjbjjjohaaGreatDoor
open Go.RowKit

theorem own_bytesAt {w : World} {base : Nat} {A : Option Addr} {n c : Nat} {l : List UInt8} (h : w.ownsRow base 5 1 (.slice A n c) n (Lib.byteCells l)) : BytesAt w A l := fun hl => by
  have hn : l.length = n := by have := h.1; simpa [Lib.byteCells] using this
  obtain ⟨g, cap, hv⟩ := Joins.ownsRow_form h (by have := List.length_pos_iff.2 hl; omega)
  have hA : A = some ⟨g, 0, none⟩ := by injection hv
  refine ⟨_, hA, fun j hj => h.cells (g := g) (by rw [hv]; rfl) j _ ?_⟩
  simp [Lib.byteCells, List.getElem?_eq_getElem hj]
theorem own_low {w : World} {base : Nat} {e : TypeId} {size : Nat} {A : Option Addr} {n c m : Nat} {xs : List Value} (h : w.ownsRow base e size (.slice A n c) m xs) : ∀ ad, A = some ad → base ≤ ad.block := by
  rintro ad rfl
  exact (h.lt ad.block rfl).1

set_option maxRecDepth 100000 in
set_option maxHeartbeats 400000 in
theorem clone_any (w : World) (A : Option Addr) (n c : Nat) (l : List UInt8) (hn : l.length = n) (hl : BytesAt w A l) (hlen : n ≤ 140737488355328) :
    Calls Tryz.prog 45 #[.slice A n c] w fun e w' => ∃ A' c', e = .returned (.slice A' n c') ∧ w'.ownsRow w.heap.size 5 1 (.slice A' n c') n (Lib.byteCells l) ∧ w.grownBy w' none := by
  obtain ⟨i0, hi, hz0, hz1, hz2⟩ := info_parts w_u8_info
  have Hlen := Lib.hid hlen
  clear hlen
  have hq : ∀ (w : World) (a : Option Addr) (n c n' c' : Nat), (binOp .eql 49 (.slice a n c) (.slice none n' c')).run Tryz.prog w = .ok (.bool a.isNone) w := fun w a n c n' c' => Lib.run_eql_slice_nil w _ _ a n c n' c' Tryz.underlying49
  subst hn
  rcases A with _ | ad
  · have hl0 : l = [] := by
      rcases l with _ | ⟨x, r⟩
      · rfl
      · obtain ⟨_, h, _⟩ := hl (by simp)
        cases h
    subst hl0
    go_enter Tryz.func45, Tryz.ntmps45
    go_wp2
    go_ret
    exact ⟨none, 0, rfl, World.ownsRow_nil _ _ _ _, World.grownBy.refl _ _⟩
  · go_enter Tryz.func45, Tryz.ntmps45
    go_wp2_with (at_builtin; refine wpList_append_bytes _ rfl _ _ 49 rfl w.heap.size 5 i0 (.int .u8 0) Tryz.underlying49 hi hz0 hz1 hz2 rfl _ _ _ rfl (World.ownsRow_made w #[] 0 (Nat.le_refl _) (Nat.zero_le _) rfl) (some ad) c l rfl (hl.alloc _) ?_ ?_ ?_)
    · simpa using Hlen.out
    · simp
    intro A' cap' w1 hown hgrow _
    go_wp2
    go_ret
    exact ⟨A', cap', rfl, hown, grown_new hgrow⟩

/-! ### Done -/
set_option maxHeartbeats 400000 in
theorem done_ok (w : World) (F : Nat → Prop) (g : Nat) (l : List UInt8) (hw : WrIs w F g .nilIface l) (hl : l.length ≤ 140737488355328) :
    Calls Tryz.prog 84 #[.pointer (some ⟨g, 0, none⟩)] w fun e w' => ∃ A c, e = .returned (.tuple #[.slice A l.length c, .nilIface]) ∧ w'.ownsRow w.heap.size 5 1 (.slice A l.length c) l.length (Lib.byteCells l) ∧ w.grownBy w' none := by
  obtain ⟨hBg, bA, bc, hb, hown, hF⟩ := hw
  have c0 := hb.cell 0
  have c1 := hb.cell 1
  simp at c0 c1
  go_enter Tryz.func84, Tryz.ntmps84
  go_wp2_with (go_at_call 45; refine (clone_any _ bA l.length bc l rfl (own_bytesAt hown) hl).mono ?_; rintro e w1 ⟨A, c, rfl, hown1, hg1⟩)
  go_ret2
  exact ⟨A, c, rfl, hown1, hg1⟩

set_option maxHeartbeats 400000 in
theorem done_err (w : World) (F : Nat → Prop) (g : Nat) (t : TypeId) (v : Value) (l : List UInt8) (hw : WrIs w F g (.iface t v) l) :
    Calls Tryz.prog 84 #[.pointer (some ⟨g, 0, none⟩)] w fun e w' => e = .returned (.tuple #[.slice none 0 0, .iface t v]) ∧ w.grownBy w' none := by
  obtain ⟨hBg, bA, bc, hb, hown, hF⟩ := hw
  have c0 := hb.cell 0
  simp at c0
  go_enter Tryz.func84, Tryz.ntmps84
  go_wp2
  go_quiet (fail)
  go_wp2
  go_ret2
  exact ⟨rfl, rfl, rfl, rfl, Nat.le_refl _, fun _ _ _ => rfl⟩

/-! ### NewWriter, Flag, Fixed, Bytes without an error -/
theorem new_ok (w : World) : Calls Tryz.prog 82 #[] w fun e w' => e = .returned (.pointer (some ⟨w.heap.size, 0, none⟩)) ∧ w' = w.alloc (.cells #[.nilIface, .slice none 0 0] 193) := by
  go_enter Tryz.func82, Tryz.ntmps82
  go_wp2
  go_ret
  exact ⟨rfl, rfl⟩
theorem WrIs.new (w : World) {F : Nat → Prop} (hF : F w.heap.size) : WrIs (w.alloc (.cells #[.nilIface, .slice none 0 0] 193)) F w.heap.size .nilIface [] :=
  ⟨hF, none, 0, Blk.new _ _ _, World.ownsRow_nil _ _ _ _, fun _ h => by cases h⟩

theorem upTo_one {F : Nat → Prop} {a b : Nat} : ∀ k, upTo F (a + 1) b k → upTo F a b k := by
  rintro k (h | ⟨h1, h2⟩)
  · exact .inl h
  · exact .inr ⟨by omega, h2⟩

end Go.Proofs.YthkjlgjbjjjohaaGreatDoor
/-
  The contracts of package wire's Reader: NewReader, next, Number.
-/

namespace Go.Proofs.YthkjlgjbjjjohaaGreatDoor
open Go.RowKit

/-! ### cuts of a slice of bytes -/
def cutA (A : Option Addr) (c k : Nat) : Option Addr := if c = k then A else A.map (·.add k)
theorem bytes_size (w : World) : (sizeOf (Tryz.prog.elem 49)).run Tryz.prog w = .ok 1 w := by kernel_rfl
theorem bytes_slice : Tryz.prog.underlying 49 = some (.slice (Tryz.prog.elem 49)) := by kernel_rfl
theorem w_slice_to (A : Option Addr) (n c k : Nat) (hk : k ≤ c) (w : World) :
    (Instr.slice 49 (.slice A n c) none (some (.int .i64 (k : Int))) none).run Tryz.prog w = .ok (.slice A k c) w := by
  rw [run_slice_h w 49 A n c bytes_slice .i64 (k : Int) (by omega) (by omega), bytes_size]
  have : (if c = 0 then A else A.map (·.add (0 * 1))) = A := by
    split
    · rfl
    · cases A <;> simp [Addr.add]
  simp [Result.andThen, sliced, this]
theorem w_slice_from (A : Option Addr) (n c k : Nat) (hk : k ≤ n) (w : World) :
    (Instr.slice 49 (.slice A n c) (some (.int .i64 (k : Int))) none none).run Tryz.prog w = .ok (.slice (cutA A c k) (n - k) (c - k)) w := by
  rw [run_slice_l w 49 A n c bytes_slice .i64 (k : Int) (by omega) (by omega), bytes_size]
  simp [Result.andThen, sliced, cutA]
theorem cutA_block {A : Option Addr} {c k : Nat} {ad : Addr} (h : cutA A c k = some ad) : ∃ a0, A = some a0 ∧ ad.block = a0.block := by
  unfold cutA at h
  split at h
  · exact ⟨ad, h, rfl⟩
  · cases A with
    | none => cases h
    | some a0 => injection h with h; subst h; exact ⟨a0, rfl, block_add a0 k⟩
theorem add_add (a : Addr) (i j : Nat) : (a.add i).add j = a.add (i + j) := by
  unfold Addr.add
  by_cases hi : i = 0 <;> by_cases hj : j = 0 <;> simp [hi, hj, Nat.add_assoc]
theorem BytesAt.take {w : World} {A : Option Addr} {l : List UInt8} (h : BytesAt w A l) (k : Nat) : BytesAt w A (l.take k) := fun hl => by
  obtain ⟨ad, rfl, hc⟩ := h (by rintro rfl; simp at hl)
  exact ⟨ad, rfl, fun j hj => by rw [List.getElem_take]; exact hc j (by simp at hj; omega)⟩
theorem BytesAt.drop {w : World} {A : Option Addr} {l : List UInt8} (h : BytesAt w A l) {c : Nat} (hc : l.length ≤ c) (k : Nat) : BytesAt w (cutA A c k) (l.drop k) := fun hl => by
  have hk : k < l.length := by
    rcases Nat.lt_or_ge k l.length with h | h
    · exact h
    · exact absurd (List.drop_eq_nil_iff.2 h) hl
  obtain ⟨ad, rfl, hcell⟩ := h (by rintro rfl; simp at hk)
  unfold cutA
  rw [if_neg (by omega)]
  refine ⟨ad.add k, rfl, fun j hj => ?_⟩
  rw [add_add, List.getElem_drop]
  exact hcell _ _

/-! ### the Reader -/
/-- The Reader at block g holds the error value ev; the bytes l are left, in the row s. -/
def RdIs (w : World) (g s : Nat) (ev : Value) (l : List UInt8) : Prop :=
  ∃ A c, Blk w g 177 #[ev, .slice A l.length c] ∧ BytesAt w A l ∧ l.length ≤ c ∧ ∀ ad, A = some ad → ad.block = s ∧ s ≠ g
theorem RdIs.drew {w : World} {g s : Nat} {ev : Value} {l : List UInt8} (h : RdIs w g s ev l) : RdIs w.drew g s ev l := h
theorem BytesAt.set {w : World} {A : Option Addr} {l : List UInt8} (h : BytesAt w A l) {p : Addr} (u : Value) (hA : ∀ ad, A = some ad → ad.block ≠ p.block) : BytesAt (w.setCell p u) A l :=
  h.keep fun ad e _ i => World.cell?_of_block (Below.heap_setCell w p u _ (by rw [block_add]; exact hA ad e))
theorem RdIs.failed {w : World} {g s : Nat} {ev u : Value} {l : List UInt8} (h : RdIs w g s ev l) : RdIs (w.setCell ⟨g, 0, none⟩ u) g s u l := by
  obtain ⟨A, c, hb, hl, hc, hA⟩ := h
  exact ⟨A, c, by simpa using hb.set 0 u, hl.set u (fun ad e => by rw [(hA ad e).1]; exact (hA ad e).2), hc, hA⟩
theorem RdIs.kept {w w' : World} {F : Nat → Prop} {g s : Nat} {ev : Value} {l : List UInt8} (h : RdIs w g s ev l) (hk : Kept F w w') (hg : ¬ F g) (hs : ¬ F s) : RdIs w' g s ev l := by
  obtain ⟨A, c, hb, hl, hc, hA⟩ := h
  exact ⟨A, c, hb.kept hk hg, hl.kept hk (fun ad e => by rw [(hA ad e).1]; exact hs), hc, hA⟩
theorem RdIs.grown {w w' : World} {g s : Nat} {ev : Value} {l : List UInt8} (h : RdIs w g s ev l) (hk : w.grownBy w' none) : RdIs w' g s ev l :=
  h.kept (F := fun _ => False) (Kept.of_grown hk fun _ e => by cases e) (fun h => h) (fun h => h)

set_option maxHeartbeats 400000 in
theorem next_ok (w : World) (g s : Nat) (l : List UInt8) (n : Nat) (hr : RdIs w g s .nilIface l) (hn : n ≤ l.length) :
    Calls Tryz.prog 113 #[.pointer (some ⟨g, 0, none⟩), .int .i64 (n : Int)] w fun e w' => ∃ A c, e = .returned (.slice A n c) ∧ BytesAt w' A (l.take n) ∧ n ≤ c ∧ (∀ ad, A = some ad → ad.block = s) ∧ RdIs w' g s .nilIface (l.drop n) ∧ w.grownBy w' (some g) := by
  obtain ⟨A, c, hb, hl, hc, hA⟩ := hr
  have c0 := hb.cell 0
  have c1 := hb.cell 1
  have f1 := hb.frozen 1
  simp at c0 c1
  have s1 := w_slice_to A l.length c n (by omega)
  have s2 := w_slice_from A l.length c n hn
  have hlt : decide (((l.length : Nat) : Int) < (n : Int)) = false := by simp; omega
  go_enter Tryz.func113, Tryz.ntmps113
  go_wp2
  go_ret
  refine ⟨A, c, rfl, ?_, by omega, fun ad e => (hA ad e).1, ⟨cutA A c n, c - n, ?_, ?_, ?_, ?_⟩, ?_⟩
  · exact (hl.take n).set _ (fun ad e => by rw [(hA ad e).1]; exact (hA ad e).2)
  · have := hb.set 1 (.slice (cutA A c n) (l.length - n) (c - n))
    simpa using this
  · exact (hl.drop hc n).set _ (fun ad e => by
      obtain ⟨a0, e0, hb0⟩ := cutA_block e
      rw [hb0, (hA a0 e0).1]; exact (hA a0 e0).2)
  · simp; omega
  · intro ad e
    obtain ⟨a0, e0, hb0⟩ := cutA_block e
    exact ⟨hb0.trans (hA a0 e0).1, (hA a0 e0).2⟩
  · exact ⟨rfl, rfl, rfl, by simp [World.setCell], fun k _ hne => (Below.heap_setCell w ⟨g, 1, none⟩ _ k (fun e => hne (by rw [e])))⟩

set_option maxHeartbeats 400000 in
theorem next_short (w : World) (B g s : Nat) (l : List UInt8) (a : Addr) (n : Int) (hr : RdIs w g s .nilIface l) (hn : (l.length : Int) < n) (he : ErrAt w B 3 a) :
    Calls Tryz.prog 113 #[.pointer (some ⟨g, 0, none⟩), .int .i64 n] w fun e w' => e = .returned (.slice none 0 0) ∧ RdIs w' g s (errV a) l ∧ w.grownBy w' (some g) := by
  have hr' := hr
  obtain ⟨A, c, hb, hl, hc, hA⟩ := hr'
  have c0 := hb.cell 0
  have c1 := hb.cell 1
  simp at c0 c1
  have hs := he.1
  have hlt : decide (((l.length : Nat) : Int) < n) = true := by simp; omega
  have Hr := Lib.hid hr
  go_enter Tryz.func113, Tryz.ntmps113
  go_wp2_with fail
  go_region_with (go_at_call 112; refine (fail_new _ g 177 _ _ (.slice A l.length c) ?_).mono ?_; exact hb.drew; rintro e w1 ⟨rfl, rfl⟩)
  all_goals
    have d0 := (hb.drew.set 0 (errV a)).cell 0
    simp at d0
    go_wp2
    go_ret
    exact ⟨rfl, Hr.out.failed, grown_set _ _⟩

set_option maxHeartbeats 400000 in
theorem next_err (w : World) (B g s : Nat) (t : TypeId) (v : Value) (l : List UInt8) (a : Addr) (n : Int) (hr : RdIs w g s (.iface t v) l) (he : ErrAt w B 3 a) :
    Calls Tryz.prog 113 #[.pointer (some ⟨g, 0, none⟩), .int .i64 n] w fun e w' => e = .returned (.slice none 0 0) ∧ w.grownBy w' none := by
  obtain ⟨A, c, hb, hl, hc, hA⟩ := hr
  have c0 := hb.cell 0
  have c1 := hb.cell 1
  simp at c0 c1
  have hs := he.1
  by_cases hlt : (l.length : Int) < n
  · go_enter Tryz.func113, Tryz.ntmps113
    go_wp2_with fail
    go_region_with (go_at_call 112; refine (fail_old _ g 177 t v (.slice A l.length c) _ ?_).mono ?_; exact hb.drew; rintro e w1 ⟨rfl, rfl⟩)
    all_goals
      go_wp2
      go_ret
      exact ⟨rfl, rfl, rfl, rfl, Nat.le_refl _, fun _ _ _ => rfl⟩
  · go_enter Tryz.func113, Tryz.ntmps113
    go_wp2
    go_ret
    exact ⟨rfl, rfl, rfl, rfl, Nat.le_refl _, fun _ _ _ => rfl⟩

theorem reader_new (w : World) (A : Option Addr) (n c : Nat) (l : List UInt8) (hn : l.length = n) (hl : BytesAt w A l) (hlen : n ≤ 140737488355328) :
    Calls Tryz.prog 73 #[.slice A n c] w fun e w' => ∃ g s, e = .returned (.pointer (some ⟨g, 0, none⟩)) ∧ RdIs w' g s .nilIface l ∧ w.heap.size ≤ g ∧ g < w'.heap.size ∧ w.heap.size ≤ s ∧ s < w'.heap.size ∧ w.grownBy w' none := by
  go_enter Tryz.func73, Tryz.ntmps73
  go_wp2_with fail
  refine (clone_any _ A n c l hn hl hlen).mono ?_
  rintro e w1 ⟨A', c', rfl, hown, k1⟩
  go_wp2_with fail
  go_ret
  have hz := k1.size
  subst hn
  have hcap : l.length ≤ c' := by
    rcases hown.2 with ⟨h, h0⟩ | ⟨g', cap, cur, h, _, _, h0, _⟩
    · omega
    · injection h with _ _ h; omega
  have key : ∃ s, w.heap.size ≤ s ∧ s < w1.heap.size + 1 ∧ ∀ ad, A' = some ad → ad.block = s ∧ s ≠ w1.heap.size := by
    rcases A' with _ | ad
    · exact ⟨w1.heap.size, hz, by omega, fun _ e => by cases e⟩
    · have := hown.lt ad.block rfl
      exact ⟨ad.block, this.1, by omega, fun ad' e => by injection e with e; subst e; exact ⟨rfl, by omega⟩⟩
  obtain ⟨s, h1, h2, h3⟩ := key
  exact ⟨_, s, rfl, ⟨A', c', Blk.new _ _ _, (own_bytesAt hown).alloc _, hcap, h3⟩, hz, by simp, h1, by simpa using h2, grown_trans k1 (World.grownBy_alloc _ _ _)⟩

theorem err_any (w : World) (g s : Nat) (ev : Value) (l : List UInt8) (hr : RdIs w g s ev l) :
    Calls Tryz.prog 111 #[.pointer (some ⟨g, 0, none⟩)] w fun e w' => e = .returned ev ∧ w = w' := by
  obtain ⟨A, c, hb, hl, hc, hA⟩ := hr
  have c0 := hb.cell 0
  simp at c0
  go_enter Tryz.func111, Tryz.ntmps111
  go_wp2
  go_ret
  exact ⟨rfl, rfl⟩
end Go.Proofs.YthkjlgjbjjjohaaGreatDoor
/-
  The contracts of package wire's Reader: Number.
-/
namespace Go.Proofs.YthkjlgjbjjjohaaGreatDoor
open Go.RowKit

/-- The number that bytes stand for, high byte first. -/
def valOf (l : List UInt8) : Nat := l.foldl (fun n c => n * 256 + c.toNat) 0
theorem valOf_snoc (l : List UInt8) (c : UInt8) : valOf (l ++ [c]) = valOf l * 256 + c.toNat := by simp [valOf]
theorem valOf_take (X : List UInt8) (k : Nat) (h : k < X.length) : valOf (X.take (k + 1)) = valOf (X.take k) * 256 + X[k].toNat := by
  rw [List.take_succ_eq_append_getElem h, valOf_snoc]
theorem valOf_take_lt (X : List UInt8) : ∀ k, k ≤ X.length → valOf (X.take k) < 256 ^ k
  | 0, _ => by simp [valOf]
  | k + 1, h => by
    rw [valOf_take X k (by omega), Nat.pow_succ]
    have h2 : valOf (X.take k) + 1 ≤ 256 ^ k := valOf_take_lt X k (by omega)
    have := Nat.mul_le_mul_right 256 h2
    have := X[k].toNat_lt
    omega

theorem or_step (X : List UInt8) (k : Nat) (h : k < X.length) (h8 : X.length ≤ 8) :
    bits BinOp.or IntKind.u64 (IntKind.u64.wrap (((valOf (X.take k) : Nat) : Int) * 256)) (IntKind.u64.wrap ((X[k].toNat : Nat) : Int)) = ((valOf (X.take (k + 1)) : Nat) : Int) := by
  have h1 := valOf_take_lt X k (by omega)
  have h2 : (256 : Nat) ^ k ≤ 256 ^ 7 := Nat.pow_le_pow_right (by omega) (by omega)
  have h3 := X[k].toNat_lt
  have e1 : IntKind.u64.wrap (((valOf (X.take k) : Nat) : Int) * 256) = ((2 ^ 8 * valOf (X.take k) : Nat) : Int) := by rw [IntKind.wrap_u64]; omega
  have e2 : IntKind.u64.wrap ((X[k].toNat : Nat) : Int) = ((X[k].toNat : Nat) : Int) := by rw [IntKind.wrap_u64]; omega
  rw [e1, e2, u64_or_nat _ _ (by omega) (by omega), ← Nat.two_pow_add_eq_or_of_lt h3, valOf_take X k h]
  omega

set_option maxHeartbeats 400000 in
theorem rnum_ok (w : World) (g s : Nat) (l : List UInt8) (width : Nat) (hr : RdIs w g s .nilIface l) (h1 : 1 ≤ width) (h8 : width ≤ 8) (hn : width ≤ l.length) (hv : valOf (l.take width) < 9223372036854775808) :
    Calls Tryz.prog 74 #[.pointer (some ⟨g, 0, none⟩), .int .i64 (width : Int)] w fun e w' => e = .returned (.int .i64 (valOf (l.take width) : Nat)) ∧ RdIs w' g s .nilIface (l.drop width) ∧ w.grownBy w' (some g) := by
  have a1 : decide ((width : Int) < 1) = false := by simp; omega
  have a2 : decide ((8 : Int) < (width : Int)) = false := by simp; omega
  go_enter Tryz.func74, Tryz.ntmps74
  go_wp2_with fail
  refine (next_ok _ g s l width hr hn).mono ?_
  rintro e w1 ⟨A, c, rfl, hb1, hc1, hA1, hr1, k1⟩
  go_wp2_with fail
  have hlen : (l.take width).length = width := by simp; omega
  have Hv := Lib.hid hv
  clear hv
  generalize hX : l.take width = X at *
  have HX := Lib.hid hX
  clear hX
  subst hlen
  go_loop [5, 23] (fun n i => ∃ k : Nat, k ≤ X.length ∧ i = .int .i64 (k : Int) ∧ n = .int .u64 (valOf (X.take k) : Nat)) (fun _ i => X.length - (intOf i).toNat)
  case atStart => exact ⟨0, Nat.zero_le _, rfl, rfl⟩
  case round =>
    obtain ⟨k, hk, rfl, rfl⟩ := hrel
    by_cases hlt : k < X.length
    · obtain ⟨ad, rfl, hc⟩ := hb1 (by rintro rfl; simp at hlt)
      have hcell := hc k hlt
      have hb : decide ((k : Int) < (X.length : Int)) = true := by simp; omega
      go_wp2_with fail
      go_round
      case rel => exact ⟨k + 1, hlt, by go_num, by rw [or_step X k hlt h8]⟩
      case measure => simp [intOf]; omega
    · obtain rfl : k = X.length := by omega
      have hb : decide ((X.length : Int) < (X.length : Int)) = false := by simp
      have hX : X.take X.length = X := List.take_of_length_le (by omega)
      rw [hX]
      have hgt : decide ((9223372036854775807 : Int) < ((valOf X : Nat) : Int)) = false := by have := Hv.out; simp; omega
      have hw : wrap64 ((valOf X : Nat) : Int) = ((valOf X : Nat) : Int) := by have := Hv.out; unfold wrap64; omega
      clear hX
      go_wp2_with fail
      go_ret
      rw [HX.out]
      exact ⟨rfl, hr1, k1⟩

set_option maxHeartbeats 400000 in
/-- 2^63 or more: ErrRange. -/
theorem rnum_big (w : World) (B g s : Nat) (l : List UInt8) (a0 : Addr) (width : Nat) (he0 : ErrAt w B 0 a0) (hg : B ≤ g) (hr : RdIs w g s .nilIface l) (h1 : 1 ≤ width) (h8 : width ≤ 8) (hn : width ≤ l.length) (hv : 9223372036854775808 ≤ valOf (l.take width)) :
    Calls Tryz.prog 74 #[.pointer (some ⟨g, 0, none⟩), .int .i64 (width : Int)] w fun e w' => e = .returned (.int .i64 0) ∧ RdIs w' g s (errV a0) (l.drop width) ∧ w.grownBy w' (some g) := by
  have a1 : decide ((width : Int) < 1) = false := by simp; omega
  have a2 : decide ((8 : Int) < (width : Int)) = false := by simp; omega
  go_enter Tryz.func74, Tryz.ntmps74
  go_wp2_with fail
  refine (next_ok _ g s l width hr hn).mono ?_
  rintro e w1 ⟨A, c, rfl, hb1, hc1, hA1, hr1, k1⟩
  go_wp2_with fail
  have hlen : (l.take width).length = width := by simp; omega
  have Hv := Lib.hid hv
  clear hv
  generalize hX : l.take width = X at *
  have HX := Lib.hid hX
  clear hX
  subst hlen
  go_loop [5, 23] (fun n i => ∃ k : Nat, k ≤ X.length ∧ i = .int .i64 (k : Int) ∧ n = .int .u64 (valOf (X.take k) : Nat)) (fun _ i => X.length - (intOf i).toNat)
  case atStart => exact ⟨0, Nat.zero_le _, rfl, rfl⟩
  case round =>
    obtain ⟨k, hk, rfl, rfl⟩ := hrel
    by_cases hlt : k < X.length
    · obtain ⟨ad, rfl, hc⟩ := hb1 (by rintro rfl; simp at hlt)
      have hcell := hc k hlt
      have hb : decide ((k : Int) < (X.length : Int)) = true := by simp; omega
      go_wp2_with fail
      go_round
      case rel => exact ⟨k + 1, hlt, by go_num, by rw [or_step X k hlt h8]⟩
      case measure => simp [intOf]; omega
    · obtain rfl : k = X.length := by omega
      have hb : decide ((X.length : Int) < (X.length : Int)) = false := by simp
      have hX : X.take X.length = X := List.take_of_length_le (by omega)
      rw [hX]
      have hgt : decide ((9223372036854775807 : Int) < ((valOf X : Nat) : Int)) = true := by have := Hv.out; simp; omega
      have hr1' := hr1
      obtain ⟨A', c', hb, hl, hc, hA⟩ := hr1'
      have hs := (he0.grown k1 (fun g' e => by injection e with e; omega)).1
      clear hX
      go_wp2_with fail
      go_region_with (go_at_call 112; refine (fail_new _ g 177 _ _ (.slice A' (l.drop X.length).length c') ?_).mono ?_; exact hb.drew; rintro e w1 ⟨rfl, rfl⟩)
      all_goals
        go_wp2
        go_ret
        exact ⟨rfl, hr1.failed, grown_trans k1 (grown_set _ _)⟩

set_option maxHeartbeats 400000 in
/-- The Reader has an error, or gets one at once: no number. -/
theorem rnum_err (w : World) (B g s : Nat) (t : TypeId) (v : Value) (l : List UInt8) (a0 a1 : Addr) (width : Int) (hr : RdIs w g s (.iface t v) l) (he0 : ErrAt w B 0 a0) (he1 : ErrAt w B 3 a1) :
    Calls Tryz.prog 74 #[.pointer (some ⟨g, 0, none⟩), .int .i64 width] w fun e w' => e = .returned (.int .i64 0) ∧ w.grownBy w' none := by
  have hr' := hr
  obtain ⟨A, c, hb, hl, hc, hA⟩ := hr'
  have hs := he0.1
  by_cases hbad : width < 1 ∨ 8 < width
  · rcases hbad with hbad | hbad
    · have a1 : decide (width < 1) = true := by simpa using hbad
      go_enter Tryz.func74, Tryz.ntmps74
      go_wp2_with fail
      go_region_with (go_at_call 112; refine (fail_old _ g 177 t v (.slice A l.length c) _ ?_).mono ?_; exact hb.drew; rintro e w1 ⟨rfl, rfl⟩)
      all_goals
        go_wp2
        go_ret
        exact ⟨rfl, rfl, rfl, rfl, Nat.le_refl _, fun _ _ _ => rfl⟩
    · have a1 : decide (width < 1) = false := by simp; omega
      have a2 : decide (8 < width) = true := by simpa using hbad
      go_enter Tryz.func74, Tryz.ntmps74
      go_wp2_with fail
      go_region_with (go_at_call 112; refine (fail_old _ g 177 t v (.slice A l.length c) _ ?_).mono ?_; exact hb.drew; rintro e w1 ⟨rfl, rfl⟩)
      all_goals
        go_wp2
        go_ret
        exact ⟨rfl, rfl, rfl, rfl, Nat.le_refl _, fun _ _ _ => rfl⟩
  · have a1 : decide (width < 1) = false := by simp; omega
    have a2 : decide (8 < width) = false := by simp; omega
    go_enter Tryz.func74, Tryz.ntmps74
    go_wp2_with fail
    refine (next_err _ B g s t v l _ width hr he1).mono ?_
    rintro e w1 ⟨rfl, k1⟩
    go_wp2_with fail
    refine wp_loop_rounds 1 ?_
    rw [rounds_succ]
    go_wp2
    go_ret
    exact ⟨rfl, k1⟩

set_option maxHeartbeats 400000 in
/-- No width: ErrRange. -/
theorem rnum_bad (w : World) (B g s : Nat) (l : List UInt8) (a0 : Addr) (width : Int) (hr : RdIs w g s .nilIface l) (he0 : ErrAt w B 0 a0) (hbad : width < 1 ∨ 8 < width) :
    Calls Tryz.prog 74 #[.pointer (some ⟨g, 0, none⟩), .int .i64 width] w fun e w' => e = .returned (.int .i64 0) ∧ RdIs w' g s (errV a0) l ∧ w.grownBy w' (some g) := by
  have hr' := hr
  obtain ⟨A, c, hb, hl, hc, hA⟩ := hr'
  have hs := he0.1
  have Hr := Lib.hid hr
  clear hr
  have hcases : decide (width < 1) = true ∨ (decide (width < 1) = false ∧ decide (8 < width) = true) := by
    rcases hbad with h | h
    · exact .inl (by simpa using h)
    · exact .inr ⟨by simp; omega, by simpa using h⟩
  clear hbad
  rcases hcases with a1 | ⟨a1, a2⟩
  all_goals
    go_enter Tryz.func74, Tryz.ntmps74
    go_wp2_with fail
    go_region_with (go_at_call 112; refine (fail_new _ g 177 _ _ (.slice A l.length c) ?_).mono ?_; exact hb.drew; rintro e w1 ⟨rfl, rfl⟩)
    all_goals
      go_wp2
      go_ret
      exact ⟨rfl, Hr.out.failed, grown_set _ _⟩

set_option maxHeartbeats 400000 in
/-- Too few bytes: ErrShort. -/
theorem rnum_short (w : World) (B g s : Nat) (l : List UInt8) (a1 : Addr) (width : Int) (hr : RdIs w g s .nilIface l) (he1 : ErrAt w B 3 a1) (h1 : 1 ≤ width) (h8 : width ≤ 8) (hn : (l.length : Int) < width) :
    Calls Tryz.prog 74 #[.pointer (some ⟨g, 0, none⟩), .int .i64 width] w fun e w' => e = .returned (.int .i64 0) ∧ RdIs w' g s (errV a1) l ∧ w.grownBy w' (some g) := by
  have b1 : decide (width < 1) = false := by simp; omega
  have b2 : decide (8 < width) = false := by simp; omega
  go_enter Tryz.func74, Tryz.ntmps74
  go_wp2_with fail
  refine (next_short _ B g s l _ width hr hn he1).mono ?_
  rintro e w1 ⟨rfl, hr1, k1⟩
  go_wp2_with fail
  refine wp_loop_rounds 1 ?_
  rw [rounds_succ]
  go_wp2
  go_ret
  exact ⟨rfl, hr1, k1⟩
end Go.Proofs.YthkjlgjbjjjohaaGreatDoor
/-
  A Reader with an error: every read answers a zero value, and nothing is turned.
-/

namespace Go.Proofs.YthkjlgjbjjjohaaGreatDoor
open Go.RowKit

section
variable (w : World) (B g s : Nat) (t : TypeId) (v : Value) (l : List UInt8) (a0 a1 : Addr)

set_option maxHeartbeats 400000 in
theorem rfixed_err (n : Int) (hr : RdIs w g s (.iface t v) l) (he0 : ErrAt w B 0 a0) (he1 : ErrAt w B 3 a1) :
    Calls Tryz.prog 110 #[.pointer (some ⟨g, 0, none⟩), .int .i64 n] w fun e w' => ∃ A c, e = .returned (.slice A 0 c) ∧ w.grownBy w' none := by
  have hr' := hr
  obtain ⟨A, c, hb, hl, hc, hA⟩ := hr'
  have hs := he0.1
  by_cases hn : n < 0
  · have b1 : decide (n < 0) = true := by simpa using hn
    clear hn
    go_enter Tryz.func110, Tryz.ntmps110
    go_wp2_with fail
    go_region_with (go_at_call 112; refine (fail_old _ g 177 t v (.slice A l.length c) _ ?_).mono ?_; exact hb.drew; rintro e w1 ⟨rfl, rfl⟩)
    all_goals
      go_wp2
      go_ret
      exact ⟨none, 0, rfl, rfl, rfl, rfl, Nat.le_refl _, fun _ _ _ => rfl⟩
  · have b1 : decide (n < 0) = false := by simpa using hn
    clear hn
    go_enter Tryz.func110, Tryz.ntmps110
    go_wp2_with fail
    refine (next_err w B g s t v l a1 n hr he1).mono ?_
    rintro e w1 ⟨rfl, k1⟩
    go_wp2_with fail
    refine (clone_any w1 none 0 0 [] rfl (BytesAt.nil _ _) (by omega)).mono ?_
    rintro e w2 ⟨A', c', rfl, _, k2⟩
    go_wp2_with fail
    go_ret
    exact ⟨A', c', rfl, grown_trans k1 k2⟩

theorem rdone_err (hr : RdIs w g s (.iface t v) l) :
    Calls Tryz.prog 75 #[.pointer (some ⟨g, 0, none⟩)] w fun e w' => e = .returned (.iface t v) ∧ w = w' := by
  obtain ⟨A, c, hb, hl, hc, hA⟩ := hr
  have c0 := hb.cell 0
  simp at c0
  go_enter Tryz.func75, Tryz.ntmps75
  go_wp2
  go_ret
  exact ⟨rfl, rfl⟩
end
end Go.Proofs.YthkjlgjbjjjohaaGreatDoor
/-
  What each read answers, as a function of the first error's number and of the bytes that are left.
-/
namespace Go.Proofs.YthkjlgjbjjjohaaGreatDoor
open Go.RowKit

def pNum (width : Int) (e : Nat) (l : List UInt8) : Nat × Nat × List UInt8 :=
  if e ≠ 0 then (0, e, l)
  else if width < 1 ∨ 8 < width then (0, 1, l)
  else if (l.length : Int) < width then (0, 2, l)
  else if 9223372036854775808 ≤ valOf (l.take width.toNat) then (0, 1, l.drop width.toNat)
  else (valOf (l.take width.toNat), 0, l.drop width.toNat)
def pFlag (e : Nat) (l : List UInt8) : Bool × Nat × List UInt8 :=
  let p := pNum 1 e l
  (p.1 == 1, if p.2.1 = 0 ∧ 1 < p.1 then 4 else p.2.1, p.2.2)
def pFixed (n : Int) (e : Nat) (l : List UInt8) : List UInt8 × Nat × List UInt8 :=
  if e ≠ 0 then ([], e, l)
  else if n < 0 then ([], 1, l)
  else if (l.length : Int) < n then ([], 2, l)
  else (l.take n.toNat, 0, l.drop n.toNat)
def pMost (width : Int) (most : Int) (e : Nat) (l : List UInt8) : Nat × Nat × List UInt8 :=
  let p := pNum width e l
  (p.1, if p.2.1 = 0 ∧ most < (p.1 : Int) then 1 else p.2.1, p.2.2)
def pBytes (most : Int) (e : Nat) (l : List UInt8) : List UInt8 × Nat × List UInt8 :=
  let p := pMost 2 most e l
  pFixed p.1 p.2.1 p.2.2
def pDone (e : Nat) (l : List UInt8) : Nat := if e = 0 ∧ l ≠ [] then 3 else e

section
variable (w : World) (B g s : Nat) (E : Nat → Addr) (e : Nat) (l : List UInt8)

theorem grown_mine {w w' : World} {g : Nat} (h : w.grownBy w' none) : w.grownBy w' (some g) := ⟨h.os, h.tape, h.output, h.size, fun k hk _ => h.block k hk (by simp)⟩
theorem RdIs.grownMine {w w' : World} {g s : Nat} {ev : Value} {l : List UInt8} (h : RdIs w g s ev l) (hk : w.grownBy w' none) : RdIs w' g s ev l := h.grown hk

theorem rnum_all (width : Int) (hr : RdIs w g s (evOf E e) l) (he : ErrVars [0, 1] w B E) (hg : B ≤ g) :
    Calls Tryz.prog 74 #[.pointer (some ⟨g, 0, none⟩), .int .i64 width] w fun en w' => en = .returned (.int .i64 ((pNum width e l).1 : Nat)) ∧ RdIs w' g s (evOf E (pNum width e l).2.1) (pNum width e l).2.2 ∧ w.grownBy w' (some g) := by
  have he0 : ErrAt w B 0 (E 0) := he.var 0 (by simp)
  have he1 : ErrAt w B 3 (E 1) := he.var 1 (by simp)
  rcases e with _ | e
  · by_cases hbad : width < 1 ∨ 8 < width
    · have hp : pNum width 0 l = (0, 1, l) := by simp [pNum, hbad]
      rw [hp]
      exact rnum_bad w B g s l _ width hr he0 hbad
    · obtain ⟨k, rfl⟩ := Int.eq_ofNat_of_zero_le (show 0 ≤ width by omega)
      by_cases hn : k ≤ l.length
      · have hn' : ¬ ((l.length : Int) < (k : Int)) := by omega
        by_cases hv : valOf (l.take k) < 9223372036854775808
        · have hp : pNum (k : Int) 0 l = (valOf (l.take k), 0, l.drop k) := by
            unfold pNum
            rw [if_neg (by simp), if_neg hbad, if_neg hn', if_neg (by simpa using hv)]
            simp
          rw [hp]
          exact rnum_ok w g s l k hr (by omega) (by omega) hn hv
        · have hp : pNum (k : Int) 0 l = (0, 1, l.drop k) := by
            unfold pNum
            rw [if_neg (by simp), if_neg hbad, if_neg hn', if_pos (by simpa using hv)]
            simp
          rw [hp]
          exact rnum_big w B g s l _ k he0 hg hr (by omega) (by omega) hn (by omega)
      · have hp : pNum (k : Int) 0 l = (0, 2, l) := by
          unfold pNum
          rw [if_neg (by simp), if_neg hbad, if_pos (by omega)]
        rw [hp]
        exact rnum_short w B g s l _ _ hr he1 (by omega) (by omega) (by omega)
  · have hp : pNum width (e + 1) l = (0, e + 1, l) := by simp [pNum]
    rw [hp]
    exact (rnum_err w B g s _ _ l _ _ width hr he0 he1).mono fun _ _ ⟨h1, h2⟩ => ⟨h1, hr.grown h2, grown_mine h2⟩

/-- Fail at the Reader, whatever it holds. -/
theorem rfail_all (k e' : Nat) (h' : (if e = 0 then k + 1 else e) = e') (hr : RdIs w g s (evOf E e) l) :
    Calls Tryz.prog 112 #[.pointer (some ⟨g, 0, none⟩), errV (E k)] w fun en w' => en = .returned (.tuple #[]) ∧ RdIs w' g s (evOf E e') l ∧ w.grownBy w' (some g) := by
  subst h'
  have hr' := hr
  obtain ⟨A, c, hb, hl, hc, hA⟩ := hr'
  rcases e with _ | e
  · refine (fail_new w g 177 _ _ (.slice A l.length c) hb).mono ?_
    rintro en w1 ⟨rfl, rfl⟩
    exact ⟨rfl, hr.failed, rfl, rfl, rfl, by simp [World.setCell], fun k _ hne => Below.heap_setCell w ⟨g, 0, none⟩ _ k (fun e => hne (by rw [e]))⟩
  · refine (fail_old w g 177 _ _ (.slice A l.length c) _ hb).mono ?_
    rintro en w1 ⟨rfl, rfl⟩
    exact ⟨rfl, hr, World.grownBy.refl _ _⟩

theorem pNum_zero {width : Int} {e : Nat} {l : List UInt8} (h : (pNum width e l).2.1 ≠ 0) : (pNum width e l).1 = 0 := by
  unfold pNum at h ⊢
  repeat' split
  all_goals first | rfl | simp_all
theorem rnum_is (width : Int) (n1 e1 : Nat) (l1 : List UInt8) (hp : pNum width e l = (n1, e1, l1)) (hr : RdIs w g s (evOf E e) l) (he : ErrVars [0, 1] w B E) (hg : B ≤ g) :
    Calls Tryz.prog 74 #[.pointer (some ⟨g, 0, none⟩), .int .i64 width] w fun en w' => en = .returned (.int .i64 (n1 : Int)) ∧ RdIs w' g s (evOf E e1) l1 ∧ w.grownBy w' (some g) := by
  have h := rnum_all w B g s E e l width hr he hg
  rw [hp] at h
  exact h

set_option maxHeartbeats 400000 in
theorem rfixed_is (n : Int) (x : List UInt8) (e' : Nat) (l' : List UInt8) (hp : pFixed n e l = (x, e', l')) (hr : RdIs w g s (evOf E e) l) (he : ErrVars [0, 1] w B E) (hl : l.length ≤ 140737488355328) :
    Calls Tryz.prog 110 #[.pointer (some ⟨g, 0, none⟩), .int .i64 n] w fun en w' => ∃ A c, en = .returned (.slice A x.length c) ∧ BytesAt w' A x ∧ (∀ ad, A = some ad → w.heap.size ≤ ad.block) ∧ RdIs w' g s (evOf E e') l' ∧ w.grownBy w' (some g) := by
  have he0 : ErrAt w B 0 (E 0) := he.var 0 (by simp)
  have he1 : ErrAt w B 3 (E 1) := he.var 1 (by simp)
  have hs := he0.1
  by_cases hn : n < 0
  · have b1 : decide (n < 0) = true := by simpa using hn
    have hx : x = [] ∧ e' = (if e = 0 then 1 else e) ∧ l' = l := by
      unfold pFixed at hp
      by_cases h : e = 0
      · rw [if_neg (by simpa using h), if_pos hn] at hp
        simp only [Prod.mk.injEq] at hp
        exact ⟨hp.1.symm, by rw [if_pos h]; exact hp.2.1.symm, hp.2.2.symm⟩
      · rw [if_pos (by simpa using h)] at hp
        simp only [Prod.mk.injEq] at hp
        exact ⟨hp.1.symm, by rw [if_neg h]; exact hp.2.1.symm, hp.2.2.symm⟩
    obtain ⟨rfl, h', rfl⟩ := hx
    have H' := Lib.hid h'
    have Hr := Lib.hid hr
    clear hn hp h' hr
    go_enter Tryz.func110, Tryz.ntmps110
    go_wp2_with fail
    go_region_with (go_at_call 112; refine (rfail_all _ g s E _ _ 0 e' H'.out.symm Hr.out.drew).mono ?_; rintro en w2 ⟨rfl, hr2, k2⟩)
    all_goals
      go_wp2_with fail
      go_ret
      exact ⟨none, 0, rfl, BytesAt.nil _ _, (fun _ e => by cases e), hr2, grown_trans (grown_drew (World.grownBy.refl _ _)) k2⟩
  · have b1 : decide (n < 0) = false := by simpa using hn
    obtain ⟨k, rfl⟩ := Int.eq_ofNat_of_zero_le (show 0 ≤ n by omega)
    have key : Calls Tryz.prog 113 #[.pointer (some ⟨g, 0, none⟩), .int .i64 (k : Int)] w fun en w' => ∃ A c, en = .returned (.slice A x.length c) ∧ BytesAt w' A x ∧ x.length ≤ l.length ∧ RdIs w' g s (evOf E e') l' ∧ w.grownBy w' (some g) := by
      rcases e with _ | e
      · by_cases hk : k ≤ l.length
        · unfold pFixed at hp
          rw [if_neg (by simp), if_neg hn, if_neg (by omega)] at hp
          simp only [Prod.mk.injEq, Int.toNat_natCast] at hp
          obtain ⟨rfl, rfl, rfl⟩ := hp
          refine (next_ok w g s l k hr hk).mono ?_
          rintro en w1 ⟨A, c, rfl, h1, h2, h3, h4, h5⟩
          have hlen : (l.take k).length = k := by simp; omega
          exact ⟨A, c, by rw [hlen], h1, by omega, h4, h5⟩
        · unfold pFixed at hp
          rw [if_neg (by simp), if_neg hn, if_pos (by omega)] at hp
          simp only [Prod.mk.injEq] at hp
          obtain ⟨rfl, rfl, rfl⟩ := hp
          refine (next_short w B g s l _ _ hr (by omega) he1).mono ?_
          rintro en w1 ⟨rfl, h4, h5⟩
          exact ⟨none, 0, rfl, BytesAt.nil _ _, by simp, h4, h5⟩
      · unfold pFixed at hp
        rw [if_pos (by simp)] at hp
        simp only [Prod.mk.injEq] at hp
        obtain ⟨rfl, rfl, rfl⟩ := hp
        refine (next_err w B g s _ _ l _ _ hr he1).mono ?_
        rintro en w1 ⟨rfl, h5⟩
        exact ⟨none, 0, rfl, BytesAt.nil _ _, by simp, hr.grown h5, grown_mine h5⟩
    have Key := Lib.hid key
    clear key hp hr he he0 he1 hs hn
    go_enter Tryz.func110, Tryz.ntmps110
    go_wp2_with fail
    refine Key.out.mono ?_
    rintro en w1 ⟨A, c, rfl, hx1, hlen, hr1, k1⟩
    have Hr1 := Lib.hid hr1
    clear hr1
    go_wp2_with fail
    refine (clone_any w1 A _ c x rfl hx1 (by omega)).mono ?_
    rintro en w2 ⟨A2, c2, rfl, hown, k2⟩
    have Hown := Lib.hid hown
    clear hown
    go_wp2_with fail
    go_ret
    have z1 := k1.size
    exact ⟨A2, c2, rfl, own_bytesAt Hown.out, fun ad e => by subst e; have := (Hown.out.lt ad.block rfl).1; omega, Hr1.out.grown k2, grown_trans k1 (grown_mine k2)⟩

theorem pNum_len (width : Int) : (pNum width e l).2.2.length ≤ l.length := by
  unfold pNum
  repeat' split
  all_goals simp
theorem pNum_drop (width : Int) : ∃ k, (pNum width e l).2.2 = l.drop k := by
  unfold pNum
  repeat' split
  all_goals first | exact ⟨0, rfl⟩ | exact ⟨_, rfl⟩

theorem rdone_is (e' : Nat) (hp : pDone e l = e') (hr : RdIs w g s (evOf E e) l) (he : ErrVars [2] w B E) :
    Calls Tryz.prog 75 #[.pointer (some ⟨g, 0, none⟩)] w fun en w' => en = .returned (evOf E e') ∧ w' = w := by
  subst hp
  rcases e with _ | e
  · have v2 : w.cell? ⟨4, 0, none⟩ = some (errV (E 2)) := (he.var 2 (by simp)).1
    obtain ⟨A, c, hb, hl, hc, hA⟩ := hr
    have c0 : w.cell? ⟨g, 0, none⟩ = some .nilIface := hb.cell 0
    have c1 := hb.cell 1
    simp at c1
    cases l with
    | nil =>
      have hp : pDone 0 [] = 0 := rfl
      rw [hp]
      go_enter Tryz.func75, Tryz.ntmps75
      go_wp2
      go_ret
      exact ⟨rfl, rfl⟩
    | cons b r =>
      have hp : pDone 0 (b :: r) = 3 := rfl
      have hb1 : decide ((0 : Int) < (((b :: r).length : Nat) : Int)) = true := by simp
      rw [hp]
      go_enter Tryz.func75, Tryz.ntmps75
      go_wp2
      go_ret
      exact ⟨rfl, rfl⟩
  · have hp : pDone (e + 1) l = e + 1 := by simp [pDone]
    rw [hp]
    exact (rdone_err w g s _ _ l hr).mono fun _ _ ⟨h1, h2⟩ => ⟨h1, h2.symm⟩
end
end Go.Proofs.YthkjlgjbjjjohaaGreatDoor
