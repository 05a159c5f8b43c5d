/-
  Several texts in one: Wire, CdP.
-/
import Derived.Test.YtpdfkgmgmndcfaaDoorM20a
import Derived.Deep.QuietTactic
import Derived.BigQuiet
import Derived.Deep.RegionWith
/-
  The contracts of package wire's Writer: what each call leaves of the Writer's block and of the bytes that it owns.
-/
namespace Go.Proofs.YtpdfkgmgmndcfaaDoor
open Go.RowKit

theorem u8_info : (Tryd.prog.info? 5).map (fun i => (i.zero, i.size, i.bytes)) = some (some (.int .u8 0), 1, 1) := by kernel_rfl

/-- The Writer at block g holds the error value ev and the bytes l; it, and the row of the bytes, lie among the blocks F. -/
def WrIs (w : World) (F : Nat → Prop) (g : Nat) (ev : Value) (l : List UInt8) : Prop :=
  F g ∧ ∃ bA bc, Blk w g 116 #[ev, .slice bA l.length bc] ∧ w.ownsRow 0 5 1 (.slice bA l.length bc) l.length (Lib.byteCells l) ∧ ∀ ad, bA = some ad → F ad.block
theorem WrIs.mono {w : World} {F G : Nat → Prop} {g : Nat} {ev : Value} {l : List UInt8} (h : WrIs w F g ev l) (hF : ∀ k, k < w.heap.size → F k → G k) : WrIs w G g ev l := by
  obtain ⟨hg, bA, bc, hb, hown, hA⟩ := h
  exact ⟨hF g hb.lt hg, bA, bc, hb, hown, by rintro ad rfl; exact hF _ (hown.lt ad.block rfl).2 (hA ad rfl)⟩

theorem own_in {F : Nat → Prop} {A : Option Addr} {n c k : Nat} (hF : ∀ ad, A = some ad → F ad.block) (h : (Value.slice A n c).ownBlock = some k) : F k := by
  rcases A with _ | ad
  · simp [Value.ownBlock] at h
  · have : ad.block = k := by simpa [Value.ownBlock] using h
    rw [← this]; exact hF ad rfl

set_option maxHeartbeats 400000 in
theorem write_ok (w : World) (F : Nat → Prop) (g : Nat) (l : List UInt8) (A : Option Addr) (m c : Nat) (x : List UInt8) (hm : x.length = m) (hw : WrIs w F g .nilIface l) (hx : BytesAt w A x)
    (hn : l.length + x.length ≤ 140737488355328) :
    Calls Tryd.prog 67 #[.pointer (some ⟨g, 0, none⟩), .slice A m c] w fun e w' => e = .returned (.tuple #[]) ∧ WrIs w' (upTo F w.heap.size w'.heap.size) g .nilIface (l ++ x) ∧ Kept F w w' := by
  subst hm
  obtain ⟨hBg, bA, bc, hb, hown, hF⟩ := hw
  obtain ⟨i0, hi, hz0, hz1, hz2⟩ := info_parts u8_info
  have c0 := hb.cell 0
  have c1 := hb.cell 1
  simp at c0 c1
  go_enter Tryd.func67, Tryd.ntmps67
  go_wp2_with (at_builtin; refine wpList_append_bytes _ rfl _ _ 49 rfl 0 5 i0 (.int .u8 0) Tryd.underlying49 hi hz0 hz1 hz2 rfl _ _ _ rfl hown A c x rfl hx hn (Nat.zero_le _) ?_)
  intro A' cap' w1 hown1 hgrow hat
  have hb1 : Blk w1 g 116 #[.nilIface, .slice bA l.length bc] := hb.grown hgrow (own_ne hown hb (by decide)).symm
  have d1 := hb1.cell 1
  have f1 := hb1.frozen 1
  simp at d1
  go_wp2
  go_end0
  refine ⟨rfl, ⟨.inl hBg, A', cap', ?_, ?_, ?_⟩, (Kept.of_grown hgrow fun k hk => own_in hF hk).set (.inl hBg) _⟩
  · have := hb1.set 1 (.slice A' (l.length + x.length) cap')
    simpa [List.length_append] using this
  · have := own_far hown1 hb1 (by decide) 1 (.slice A' (l.length + x.length) cap')
    rw [Lib.byteCells_append, List.length_append]
    exact this
  · rintro ad rfl
    have hlt := (hown1.lt ad.block rfl).2
    rcases hat with h | h
    · exact .inl (own_in hF h.symm)
    · have : ad.block = w.heap.size := by simpa [Value.ownBlock] using h
      exact .inr ⟨by omega, by simpa [World.setCell] using hlt⟩

set_option maxHeartbeats 400000 in
theorem write_err (w : World) (F : Nat → Prop) (g : Nat) (t : TypeId) (v : Value) (l : List UInt8) (A : Option Addr) (n c : Nat) (hw : WrIs w F g (.iface t v) l) :
    Calls Tryd.prog 67 #[.pointer (some ⟨g, 0, none⟩), .slice A n c] w fun e w' => e = .returned (.tuple #[]) ∧ w = w' := by
  obtain ⟨hBg, bA, bc, hb, hown, hF⟩ := hw
  have c0 := hb.cell 0
  simp at c0
  go_enter Tryd.func67, Tryd.ntmps67
  go_wp2
  go_end0
  exact ⟨rfl, rfl⟩

/-- The low k bytes of n, high byte first. -/
def be : Nat → Nat → List UInt8
  | 0, _ => []
  | k + 1, n => UInt8.ofNat (n / 256 ^ k) :: be k n

theorem WrIs.alloc {w : World} {F : Nat → Prop} {g : Nat} {ev : Value} {l : List UInt8} (h : WrIs w F g ev l) (o : Obj) : WrIs (w.alloc o) F g ev l := by
  obtain ⟨hBg, bA, bc, hb, hown, hF⟩ := h
  exact ⟨hBg, bA, bc, hb.alloc o, hown.alloc o, hF⟩
theorem be_length : ∀ k n, (be k n).length = k
  | 0, _ => rfl
  | k + 1, n => by simp [be, be_length k n]
theorem pow256 (k : Nat) : (2 : Nat) ^ (8 * k) = 256 ^ k := by rw [Nat.pow_mul]
theorem shr_cast (n k : Nat) : (n : Int) / 2 ^ (8 * k) = ((n / 256 ^ k : Nat) : Int) := by
  rw [← pow256]; simp
theorem u8_shr (n k : Nat) : Value.int .u8 ((n : Int) / 2 ^ (8 * k) % 256) = .int .u8 ((UInt8.ofNat (n / 256 ^ k)).toNat : Nat) := by
  rw [shr_cast]; congr 1
theorem shr_zero {n k : Nat} (h : n < 256 ^ k) : (n : Int) / 2 ^ (8 * k) = 0 := by
  rw [shr_cast, Nat.div_eq_of_lt h]; rfl

set_option maxHeartbeats 400000 in
theorem number_ok (w : World) (F : Nat → Prop) (g : Nat) (l : List UInt8) (n width : Nat) (hw : WrIs w F g .nilIface l)
    (h1 : 1 ≤ width) (h8 : width ≤ 8) (hn : n < 256 ^ width) (hl : l.length ≤ 70368744177664) :
    Calls Tryd.prog 55 #[.pointer (some ⟨g, 0, none⟩), .int .i64 (n : Int), .int .i64 (width : Int)] w fun e w' => e = .returned (.tuple #[]) ∧ WrIs w' (upTo F w.heap.size w'.heap.size) g .nilIface (l ++ be width n) ∧ Kept F w w' := by
  have a1 : decide ((width : Int) < 1) = false := by simp; omega
  have a2 : decide ((8 : Int) < (width : Int)) = false := by simp; omega
  have a3 : decide ((n : Int) < 0) = false := by simp
  have a4 : (((n : Int) / 2 ^ (8 * width)) != 0) = false := by rw [shr_zero hn]; rfl
  go_enter Tryd.func55, Tryd.ntmps55
  go_wp2_with fail
  go_loopw [6] (fun i wr => ∃ k done, k ≤ width ∧ done ++ be k n = be width n ∧ i = .int .i64 ((k : Int) - 1) ∧ WrIs wr (upTo F w.heap.size wr.heap.size) g .nilIface (l ++ done) ∧ Kept F w wr) (fun i _ => (intOf i + 1).toNat)
  case atStart => exact ⟨width, [], Nat.le_refl _, rfl, rfl, by simpa using hw.mono fun k _ h => .inl h, Kept.refl _ _⟩
  case round =>
    obtain ⟨k, done, hk, hd, hi, hwr, hbel⟩ := hrel
    rcases k with _ | k
    · subst hi
      go_wp2_with fail
      go_end0
      refine ⟨rfl, ?_, hbel⟩
      rw [← hd]
      simpa [be] using hwr
    · have hi' := hi.trans (show Value.int .i64 (((k + 1 : Nat) : Int) - 1) = .int .i64 (k : Int) by congr 1; omega)
      clear hi
      subst hi'
      have hsz := hbel.size
      have hdl : done.length ≤ 8 := by have := congrArg List.length hd; rw [List.length_append, be_length, be_length] at this; omega
      have Hd := Lib.hid hd
      clear hd
      go_wp2_with fail
      refine (write_ok _ _ g (l ++ done) _ 1 _ [UInt8.ofNat (n / 256 ^ k)] rfl (hwr.alloc _) (BytesAt.one _ (u8_shr n k)) ?_).mono ?_
      · simp; omega
      rintro e w1 ⟨rfl, hwr1, hbel1⟩
      have hsz1 := hbel1.size
      simp at hsz1
      go_wp2_with fail
      go_roundw
      case rel => exact ⟨k, done ++ [UInt8.ofNat (n / 256 ^ k)], by omega, by rw [← Hd.out]; simp [be], by go_num, by simpa using hwr1.mono fun k _ h => upTo_alloc hsz hsz1 k (by simpa using h), (hbel.alloc _).trans (hbel1.mono fun k _ h => by simpa using upTo_more hsz k h)⟩
      case measure => simp [intOf]

/-! ### Fail, and the Writer in the state 'error' -/

theorem fail_new (w : World) (g : Nat) (t u : TypeId) (v x : Value) (hb : Blk w g t #[.nilIface, x]) :
    Calls Tryd.prog 66 #[.pointer (some ⟨g, 0, none⟩), .iface u v] w fun e w' => e = .returned (.tuple #[]) ∧ w' = w.setCell ⟨g, 0, none⟩ (.iface u v) := by
  have c0 := hb.cell 0
  have f0 := hb.frozen 0
  simp at c0
  go_enter Tryd.func66, Tryd.ntmps66
  go_wp2
  go_end0
  exact ⟨rfl, rfl⟩

theorem fail_old (w : World) (g : Nat) (t u : TypeId) (v x y : Value) (hb : Blk w g t #[.iface u v, x]) :
    Calls Tryd.prog 66 #[.pointer (some ⟨g, 0, none⟩), y] w fun e w' => e = .returned (.tuple #[]) ∧ w = w' := by
  have c0 := hb.cell 0
  simp at c0
  go_enter Tryd.func66, Tryd.ntmps66
  go_wp2
  go_end0
  exact ⟨rfl, rfl⟩

theorem WrIs.drew {w : World} {F : Nat → Prop} {g : Nat} {ev : Value} {l : List UInt8} (h : WrIs w F g ev l) : WrIs w.drew F g ev l := h
theorem WrIs.failed {w : World} {F : Nat → Prop} {g : Nat} {ev u : Value} {l : List UInt8} (h : WrIs w F g ev l) : WrIs (w.setCell ⟨g, 0, none⟩ u) F g u l := by
  obtain ⟨hBg, bA, bc, hb, hown, hF⟩ := h
  exact ⟨hBg, bA, bc, by simpa using hb.set 0 u, own_far hown hb (by decide) 0 u, hF⟩
theorem WrIs.grown {w w' : World} {F : Nat → Prop} {g : Nat} {ev : Value} {l : List UInt8} (h : WrIs w F g ev l) (hg : w.grownBy w' none) : WrIs w' F g ev l := by
  obtain ⟨hBg, bA, bc, hb, hown, hF⟩ := h
  exact ⟨hBg, bA, bc, hb.grown hg (by simp), hown.kept hg (by cases hv : (Value.slice bA l.length bc).ownBlock <;> simp), hF⟩
theorem WrIs.kept {w w' : World} {F G : Nat → Prop} {g : Nat} {ev : Value} {l : List UInt8} (h : WrIs w F g ev l) (hk : Kept G w w') (hn : ∀ k, F k → ¬ G k) : WrIs w' F g ev l := by
  obtain ⟨hBg, bA, bc, hb, hown, hF⟩ := h
  exact ⟨hBg, bA, bc, hb.kept hk (hn g hBg), own_kept hown hk fun k hk => hn k (own_in hF hk), hF⟩
/-- n does not fit the width. -/
def badNum (n width : Int) : Bool := decide (width < 1) || decide (8 < width) || decide (n < 0) || ((n / 2 ^ (8 * width.toNat)) != 0)

theorem badNum_cases {n width : Int} (h : badNum n width = true) :
    decide (width < 1) = true ∨ (decide (width < 1) = false ∧ decide (8 < width) = true) ∨ (decide (width < 1) = false ∧ decide (8 < width) = false ∧ decide (n < 0) = true) ∨
    ∃ k m : Nat, width = (k : Int) ∧ n = (m : Int) ∧ decide ((k : Int) < 1) = false ∧ decide ((8 : Int) < (k : Int)) = false ∧ k ≤ 8 ∧ (((m : Int) / 2 ^ (8 * k)) != 0) = true := by
  unfold badNum at h
  cases h1 : decide (width < 1)
  · cases h2 : decide (8 < width)
    · cases h3 : decide (n < 0)
      · have e1 : ((width.toNat : Nat) : Int) = width := by simp at h1; omega
        have e2 : ((n.toNat : Nat) : Int) = n := by simp at h3; omega
        refine .inr (.inr (.inr ⟨width.toNat, n.toNat, e1.symm, e2.symm, ?_, ?_, ?_, ?_⟩))
        · rw [e1]; exact h1
        · rw [e1]; exact h2
        · simp at h2; omega
        · rw [e2]; simpa [h1, h2, h3] using h
      · exact .inr (.inr (.inl ⟨rfl, rfl, rfl⟩))
    · exact .inr (.inl ⟨rfl, rfl⟩)
  · exact .inl rfl

set_option maxHeartbeats 400000 in
theorem number_bad (w : World) (F : Nat → Prop) (B0 g : Nat) (l : List UInt8) (a : Addr) (n width : Int) (hw : WrIs w F g .nilIface l) (he : ErrAt w B0 3 a) (hbad : badNum n width = true) :
    Calls Tryd.prog 55 #[.pointer (some ⟨g, 0, none⟩), .int .i64 n, .int .i64 width] w fun e w' => e = .returned (.tuple #[]) ∧ WrIs w' F g (errV a) l ∧ w.grownBy w' (some g) := by
  have hw' := hw
  obtain ⟨hBg, bA, bc, hb, hown, hF⟩ := hw'
  have hr := he.1
  have Hw := Lib.hid hw
  rcases badNum_cases hbad with a1 | ⟨a1, a2⟩ | ⟨a1, a2, a3⟩ | ⟨k, m, rfl, rfl, a1, a2, a3, a4⟩
  all_goals
    clear hbad
    go_enter Tryd.func55, Tryd.ntmps55
    go_wp2_with fail
    go_region_with (go_at_call 66; refine (fail_new _ g 116 _ _ (.slice bA l.length bc) ?_).mono ?_; exact hb.drew; rintro e w1 ⟨rfl, rfl⟩)
    all_goals
      go_wp2
      first | go_end0 | refine bodyPost_ret (results_none rfl _ _ _) rfl ?_
      exact ⟨rfl, Hw.out.failed, grown_set _ _⟩
end Go.Proofs.YtpdfkgmgmndcfaaDoor
/-
  Messages as bytes: the document's forms as functions of what is written so far (the first error's number, the bytes).
-/

namespace Go.Proofs.YtpdfkgmgmndcfaaDoor
open Go.RowKit

abbrev WSt := Nat × List UInt8
/-- The first error stays. -/
def sFail (k : Nat) (s : WSt) : WSt := if s.1 = 0 then (k, s.2) else s
def sFix (x : List UInt8) (s : WSt) : WSt := if s.1 = 0 then (0, s.2 ++ x) else s
def sNum (n w : Int) (s : WSt) : WSt := if badNum n w = true then sFail 1 s else sFix (be w.toNat n.toNat) s
def sBytes (x : List UInt8) (most : Int) (s : WSt) : WSt := if most < (x.length : Int) ∨ 65535 < x.length then sFail 1 s else sFix x (sNum (x.length : Int) 2 s)
def sPut (n : Nat) (most : Int) (f : WSt → WSt) (s : WSt) : WSt := if most < (n : Int) ∨ 255 < n then sFail 1 s else f (sNum (n : Int) 1 s)
def sAll {α : Type} (f : α → WSt → WSt) (L : List α) (s : WSt) : WSt := L.foldl (fun s x => f x s) s
theorem sAll_nil {α : Type} (f : α → WSt → WSt) (s : WSt) : sAll f [] s = s := rfl
theorem sAll_snoc {α : Type} (f : α → WSt → WSt) (L : List α) (x : α) (s : WSt) : sAll f (L ++ [x]) s = f x (sAll f L s) := by simp [sAll, List.foldl_append]

/-- It writes at most so many bytes. -/
def Adds (c : Nat) (f : WSt → WSt) : Prop := ∀ s, (f s).2.length ≤ s.2.length + c
theorem Adds.mono {c d : Nat} {f : WSt → WSt} (h : Adds c f) (hcd : c ≤ d) : Adds d f := fun s => Nat.le_trans (h s) (by omega)
theorem Adds.comp {c d : Nat} {f g : WSt → WSt} (h : Adds c f) (k : Adds d g) : Adds (c + d) (fun s => g (f s)) := fun s => by
  have h1 := h s
  have h2 := k (f s)
  show (g (f s)).2.length ≤ _
  omega
theorem adds_fail (k c : Nat) : Adds c (sFail k) := fun s => by unfold sFail; split <;> simp <;> omega
theorem adds_fix (x : List UInt8) : Adds x.length (sFix x) := fun s => by unfold sFix; split <;> simp
theorem adds_num (n : Int) (w : Nat) : Adds w (sNum n (w : Int)) := fun s => by
  unfold sNum
  split
  · exact adds_fail 1 w s
  · exact Nat.le_trans (adds_fix _ s) (by rw [be_length]; simp)
theorem adds_all {α : Type} {f : α → WSt → WSt} {c : Nat} (L : List α) (h : ∀ x ∈ L, Adds c (f x)) : Adds (L.length * c) (sAll f L) := fun s => by
  induction L generalizing s with
  | nil => simp [sAll]
  | cons x r ih =>
    have h1 := ih (fun y hy => h y (List.mem_cons_of_mem _ hy)) (f x s)
    have h2 := h x (List.mem_cons_self ..) s
    have : sAll f (x :: r) s = sAll f r (f x s) := rfl
    rw [this, List.length_cons, Nat.succ_mul]
    omega
theorem adds_put {n : Nat} {most : Int} {c m : Nat} {f : WSt → WSt} (hm : most = (m : Int)) (h : n ≤ m → Adds (n * c) f) : Adds (1 + m * c) (sPut n most f) := fun s => by
  subst hm
  unfold sPut
  split
  · exact adds_fail 1 _ s
  · have hn : n ≤ m := by omega
    have h1 := adds_num (n : Int) 1 s
    have h2 := h hn (sNum (n : Int) 1 s)
    have h3 : n * c ≤ m * c := Nat.mul_le_mul_right c hn
    have h4 : sNum (n : Int) 1 s = sNum (n : Int) ((1 : Nat) : Int) s := rfl
    rw [h4] at h2 ⊢
    omega
theorem adds_bytes (x : List UInt8) (m : Nat) : Adds (2 + m) (sBytes x (m : Int)) := fun s => by
  unfold sBytes
  split
  · exact adds_fail 1 _ s
  · have h1 := adds_num (x.length : Int) 2 s
    have h2 := adds_fix x (sNum (x.length : Int) ((2 : Nat) : Int) s)
    have h4 : sNum (x.length : Int) 2 s = sNum (x.length : Int) ((2 : Nat) : Int) s := rfl
    rw [h4]
    omega

/-- A digest's bytes. -/
def dgB (d : List Int) : List UInt8 := d.map fun z => UInt8.ofNat z.toNat
theorem dgB_length (d : List Int) : (dgB d).length = d.length := by simp [dgB]
def sDig (d : List Int) : WSt → WSt := sFix (dgB d)
def sSig (lf : Int) (cs ps : List (List Int)) (s : WSt) : WSt := sPut ps.length 5 (sAll sDig ps) (sPut cs.length 68 (sAll sDig cs) (sNum lf 1 s))
theorem adds_dig {d : List Int} (h : d.length = 16) : Adds 16 (sDig d) := (adds_fix _).mono (by rw [dgB_length, h]; exact Nat.le_refl _)
theorem adds_digs {ds : List (List Int)} (h : ∀ d ∈ ds, d.length = 16) : Adds (ds.length * 16) (sAll sDig ds) := adds_all ds fun d hd => adds_dig (h d hd)
theorem adds_sig {lf : Int} {cs ps : List (List Int)} (hc : ∀ d ∈ cs, d.length = 16) (hp : ∀ d ∈ ps, d.length = 16) : Adds 1171 (sSig lf cs ps) :=
  (((adds_num lf 1).comp (adds_put (m := 68) rfl fun _ => adds_digs hc)).comp (adds_put (m := 5) rfl fun _ => adds_digs hp)).mono (by omega)
end Go.Proofs.YtpdfkgmgmndcfaaDoor
