/-
  Several texts in one: Wire, Law.
-/
import Derived.Test.YtebnebajedlhlaaDoorM9ij
import Derived.Deep.QuietTactic
import Derived.BigQuiet
import Derived.Deep.RegionWith
import Derived.Test.YtebnebajedlhlaaDoorM9ia
import Derived.ProofKit
/-
  The contracts of package wire's Writer: what each call leaves of the Writer's block and of the bytes that it owns.
-/
namespace Go.Proofs.YtebnebajedlhlaaDoor
open Go.RowKit

theorem u8_info : (Tryd.prog.info? 5).map (fun i => (i.zero, i.size, i.bytes)) = some (some (.int .u8 0), 1, 1) := by kernel_rfl

/-- The Writer at block g holds the error value ev and the bytes l; it, and the row of the bytes, lie among the blocks F. -/
def WrIs (w : World) (F : Nat → Prop) (g : Nat) (ev : Value) (l : List UInt8) : Prop :=
  F g ∧ ∃ bA bc, Blk w g 114 #[ev, .slice bA l.length bc] ∧ w.ownsRow 0 5 1 (.slice bA l.length bc) l.length (Lib.byteCells l) ∧ ∀ ad, bA = some ad → F ad.block
theorem WrIs.mono {w : World} {F G : Nat → Prop} {g : Nat} {ev : Value} {l : List UInt8} (h : WrIs w F g ev l) (hF : ∀ k, k < w.heap.size → F k → G k) : WrIs w G g ev l := by
  obtain ⟨hg, bA, bc, hb, hown, hA⟩ := h
  exact ⟨hF g hb.lt hg, bA, bc, hb, hown, by rintro ad rfl; exact hF _ (hown.lt ad.block rfl).2 (hA ad rfl)⟩

theorem own_in {F : Nat → Prop} {A : Option Addr} {n c k : Nat} (hF : ∀ ad, A = some ad → F ad.block) (h : (Value.slice A n c).ownBlock = some k) : F k := by
  rcases A with _ | ad
  · simp [Value.ownBlock] at h
  · have : ad.block = k := by simpa [Value.ownBlock] using h
    rw [← this]; exact hF ad rfl

set_option maxHeartbeats 400000 in
theorem write_ok (w : World) (F : Nat → Prop) (g : Nat) (l : List UInt8) (A : Option Addr) (m c : Nat) (x : List UInt8) (hm : x.length = m) (hw : WrIs w F g .nilIface l) (hx : BytesAt w A x)
    (hn : l.length + x.length ≤ 140737488355328) :
    Calls Tryd.prog 53 #[.pointer (some ⟨g, 0, none⟩), .slice A m c] w fun e w' => e = .returned (.tuple #[]) ∧ WrIs w' (upTo F w.heap.size w'.heap.size) g .nilIface (l ++ x) ∧ Kept F w w' := by
  subst hm
  obtain ⟨hBg, bA, bc, hb, hown, hF⟩ := hw
  obtain ⟨i0, hi, hz0, hz1, hz2⟩ := info_parts u8_info
  have c0 := hb.cell 0
  have c1 := hb.cell 1
  simp at c0 c1
  go_enter Tryd.func53, Tryd.ntmps53
  go_wp2_with (at_builtin; refine wpList_append_bytes _ rfl _ _ 33 rfl 0 5 i0 (.int .u8 0) Tryd.underlying33 hi hz0 hz1 hz2 rfl _ _ _ rfl hown A c x rfl hx hn (Nat.zero_le _) ?_)
  intro A' cap' w1 hown1 hgrow hat
  have hb1 : Blk w1 g 114 #[.nilIface, .slice bA l.length bc] := hb.grown hgrow (own_ne hown hb (by decide)).symm
  have d1 := hb1.cell 1
  have f1 := hb1.frozen 1
  simp at d1
  go_wp2
  go_end0
  refine ⟨rfl, ⟨.inl hBg, A', cap', ?_, ?_, ?_⟩, (Kept.of_grown hgrow fun k hk => own_in hF hk).set (.inl hBg) _⟩
  · have := hb1.set 1 (.slice A' (l.length + x.length) cap')
    simpa [List.length_append] using this
  · have := own_far hown1 hb1 (by decide) 1 (.slice A' (l.length + x.length) cap')
    rw [Lib.byteCells_append, List.length_append]
    exact this
  · rintro ad rfl
    have hlt := (hown1.lt ad.block rfl).2
    rcases hat with h | h
    · exact .inl (own_in hF h.symm)
    · have : ad.block = w.heap.size := by simpa [Value.ownBlock] using h
      exact .inr ⟨by omega, by simpa [World.setCell] using hlt⟩

set_option maxHeartbeats 400000 in
theorem write_err (w : World) (F : Nat → Prop) (g : Nat) (t : TypeId) (v : Value) (l : List UInt8) (A : Option Addr) (n c : Nat) (hw : WrIs w F g (.iface t v) l) :
    Calls Tryd.prog 53 #[.pointer (some ⟨g, 0, none⟩), .slice A n c] w fun e w' => e = .returned (.tuple #[]) ∧ w = w' := by
  obtain ⟨hBg, bA, bc, hb, hown, hF⟩ := hw
  have c0 := hb.cell 0
  simp at c0
  go_enter Tryd.func53, Tryd.ntmps53
  go_wp2
  go_end0
  exact ⟨rfl, rfl⟩

/-- The low k bytes of n, high byte first. -/
def be : Nat → Nat → List UInt8
  | 0, _ => []
  | k + 1, n => UInt8.ofNat (n / 256 ^ k) :: be k n

theorem WrIs.alloc {w : World} {F : Nat → Prop} {g : Nat} {ev : Value} {l : List UInt8} (h : WrIs w F g ev l) (o : Obj) : WrIs (w.alloc o) F g ev l := by
  obtain ⟨hBg, bA, bc, hb, hown, hF⟩ := h
  exact ⟨hBg, bA, bc, hb.alloc o, hown.alloc o, hF⟩
theorem be_length : ∀ k n, (be k n).length = k
  | 0, _ => rfl
  | k + 1, n => by simp [be, be_length k n]
theorem pow256 (k : Nat) : (2 : Nat) ^ (8 * k) = 256 ^ k := by rw [Nat.pow_mul]
theorem shr_cast (n k : Nat) : (n : Int) / 2 ^ (8 * k) = ((n / 256 ^ k : Nat) : Int) := by
  rw [← pow256]; simp
theorem u8_shr (n k : Nat) : Value.int .u8 ((n : Int) / 2 ^ (8 * k) % 256) = .int .u8 ((UInt8.ofNat (n / 256 ^ k)).toNat : Nat) := by
  rw [shr_cast]; congr 1
theorem shr_zero {n k : Nat} (h : n < 256 ^ k) : (n : Int) / 2 ^ (8 * k) = 0 := by
  rw [shr_cast, Nat.div_eq_of_lt h]; rfl

set_option maxHeartbeats 400000 in
theorem number_ok (w : World) (F : Nat → Prop) (g : Nat) (l : List UInt8) (n width : Nat) (hw : WrIs w F g .nilIface l)
    (h1 : 1 ≤ width) (h8 : width ≤ 8) (hn : n < 256 ^ width) (hl : l.length ≤ 70368744177664) :
    Calls Tryd.prog 34 #[.pointer (some ⟨g, 0, none⟩), .int .i64 (n : Int), .int .i64 (width : Int)] w fun e w' => e = .returned (.tuple #[]) ∧ WrIs w' (upTo F w.heap.size w'.heap.size) g .nilIface (l ++ be width n) ∧ Kept F w w' := by
  have a1 : decide ((width : Int) < 1) = false := by simp; omega
  have a2 : decide ((8 : Int) < (width : Int)) = false := by simp; omega
  have a3 : decide ((n : Int) < 0) = false := by simp
  have a4 : (((n : Int) / 2 ^ (8 * width)) != 0) = false := by rw [shr_zero hn]; rfl
  go_enter Tryd.func34, Tryd.ntmps34
  go_wp2_with fail
  go_loopw [6] (fun i wr => ∃ k done, k ≤ width ∧ done ++ be k n = be width n ∧ i = .int .i64 ((k : Int) - 1) ∧ WrIs wr (upTo F w.heap.size wr.heap.size) g .nilIface (l ++ done) ∧ Kept F w wr) (fun i _ => (intOf i + 1).toNat)
  case atStart => exact ⟨width, [], Nat.le_refl _, rfl, rfl, by simpa using hw.mono fun k _ h => .inl h, Kept.refl _ _⟩
  case round =>
    obtain ⟨k, done, hk, hd, hi, hwr, hbel⟩ := hrel
    rcases k with _ | k
    · subst hi
      go_wp2_with fail
      go_end0
      refine ⟨rfl, ?_, hbel⟩
      rw [← hd]
      simpa [be] using hwr
    · have hi' := hi.trans (show Value.int .i64 (((k + 1 : Nat) : Int) - 1) = .int .i64 (k : Int) by congr 1; omega)
      clear hi
      subst hi'
      have hsz := hbel.size
      have hdl : done.length ≤ 8 := by have := congrArg List.length hd; rw [List.length_append, be_length, be_length] at this; omega
      have Hd := Lib.hid hd
      clear hd
      go_wp2_with fail
      refine (write_ok _ _ g (l ++ done) _ 1 _ [UInt8.ofNat (n / 256 ^ k)] rfl (hwr.alloc _) (BytesAt.one _ (u8_shr n k)) ?_).mono ?_
      · simp; omega
      rintro e w1 ⟨rfl, hwr1, hbel1⟩
      have hsz1 := hbel1.size
      simp at hsz1
      go_wp2_with fail
      go_roundw
      case rel => exact ⟨k, done ++ [UInt8.ofNat (n / 256 ^ k)], by omega, by rw [← Hd.out]; simp [be], by go_num, by simpa using hwr1.mono fun k _ h => upTo_alloc hsz hsz1 k (by simpa using h), (hbel.alloc _).trans (hbel1.mono fun k _ h => by simpa using upTo_more hsz k h)⟩
      case measure => simp [intOf]

/-! ### Fail, and the Writer in the state 'error' -/

theorem fail_new (w : World) (g : Nat) (t u : TypeId) (v x : Value) (hb : Blk w g t #[.nilIface, x]) :
    Calls Tryd.prog 52 #[.pointer (some ⟨g, 0, none⟩), .iface u v] w fun e w' => e = .returned (.tuple #[]) ∧ w' = w.setCell ⟨g, 0, none⟩ (.iface u v) := by
  have c0 := hb.cell 0
  have f0 := hb.frozen 0
  simp at c0
  go_enter Tryd.func52, Tryd.ntmps52
  go_wp2
  go_end0
  exact ⟨rfl, rfl⟩

theorem fail_old (w : World) (g : Nat) (t u : TypeId) (v x y : Value) (hb : Blk w g t #[.iface u v, x]) :
    Calls Tryd.prog 52 #[.pointer (some ⟨g, 0, none⟩), y] w fun e w' => e = .returned (.tuple #[]) ∧ w = w' := by
  have c0 := hb.cell 0
  simp at c0
  go_enter Tryd.func52, Tryd.ntmps52
  go_wp2
  go_end0
  exact ⟨rfl, rfl⟩

theorem WrIs.drew {w : World} {F : Nat → Prop} {g : Nat} {ev : Value} {l : List UInt8} (h : WrIs w F g ev l) : WrIs w.drew F g ev l := h
theorem WrIs.failed {w : World} {F : Nat → Prop} {g : Nat} {ev u : Value} {l : List UInt8} (h : WrIs w F g ev l) : WrIs (w.setCell ⟨g, 0, none⟩ u) F g u l := by
  obtain ⟨hBg, bA, bc, hb, hown, hF⟩ := h
  exact ⟨hBg, bA, bc, by simpa using hb.set 0 u, own_far hown hb (by decide) 0 u, hF⟩
theorem WrIs.grown {w w' : World} {F : Nat → Prop} {g : Nat} {ev : Value} {l : List UInt8} (h : WrIs w F g ev l) (hg : w.grownBy w' none) : WrIs w' F g ev l := by
  obtain ⟨hBg, bA, bc, hb, hown, hF⟩ := h
  exact ⟨hBg, bA, bc, hb.grown hg (by simp), hown.kept hg (by cases hv : (Value.slice bA l.length bc).ownBlock <;> simp), hF⟩
theorem WrIs.kept {w w' : World} {F G : Nat → Prop} {g : Nat} {ev : Value} {l : List UInt8} (h : WrIs w F g ev l) (hk : Kept G w w') (hn : ∀ k, F k → ¬ G k) : WrIs w' F g ev l := by
  obtain ⟨hBg, bA, bc, hb, hown, hF⟩ := h
  exact ⟨hBg, bA, bc, hb.kept hk (hn g hBg), own_kept hown hk fun k hk => hn k (own_in hF hk), hF⟩
/-- n does not fit the width. -/
def badNum (n width : Int) : Bool := decide (width < 1) || decide (8 < width) || decide (n < 0) || ((n / 2 ^ (8 * width.toNat)) != 0)

theorem badNum_cases {n width : Int} (h : badNum n width = true) :
    decide (width < 1) = true ∨ (decide (width < 1) = false ∧ decide (8 < width) = true) ∨ (decide (width < 1) = false ∧ decide (8 < width) = false ∧ decide (n < 0) = true) ∨
    ∃ k m : Nat, width = (k : Int) ∧ n = (m : Int) ∧ decide ((k : Int) < 1) = false ∧ decide ((8 : Int) < (k : Int)) = false ∧ k ≤ 8 ∧ (((m : Int) / 2 ^ (8 * k)) != 0) = true := by
  unfold badNum at h
  cases h1 : decide (width < 1)
  · cases h2 : decide (8 < width)
    · cases h3 : decide (n < 0)
      · have e1 : ((width.toNat : Nat) : Int) = width := by simp at h1; omega
        have e2 : ((n.toNat : Nat) : Int) = n := by simp at h3; omega
        refine .inr (.inr (.inr ⟨width.toNat, n.toNat, e1.symm, e2.symm, ?_, ?_, ?_, ?_⟩))
        · rw [e1]; exact h1
        · rw [e1]; exact h2
        · simp at h2; omega
        · rw [e2]; simpa [h1, h2, h3] using h
      · exact .inr (.inr (.inl ⟨rfl, rfl, rfl⟩))
    · exact .inr (.inl ⟨rfl, rfl⟩)
  · exact .inl rfl

set_option maxHeartbeats 400000 in
theorem number_bad (w : World) (F : Nat → Prop) (B0 g : Nat) (l : List UInt8) (a : Addr) (n width : Int) (hw : WrIs w F g .nilIface l) (he : ErrAt w B0 1 a) (hbad : badNum n width = true) :
    Calls Tryd.prog 34 #[.pointer (some ⟨g, 0, none⟩), .int .i64 n, .int .i64 width] w fun e w' => e = .returned (.tuple #[]) ∧ WrIs w' F g (errV a) l ∧ w.grownBy w' (some g) := by
  have hw' := hw
  obtain ⟨hBg, bA, bc, hb, hown, hF⟩ := hw'
  have hr := he.1
  have Hw := Lib.hid hw
  rcases badNum_cases hbad with a1 | ⟨a1, a2⟩ | ⟨a1, a2, a3⟩ | ⟨k, m, rfl, rfl, a1, a2, a3, a4⟩
  all_goals
    clear hbad
    go_enter Tryd.func34, Tryd.ntmps34
    go_wp2_with fail
    go_region_with (go_at_call 52; refine (fail_new _ g 114 _ _ (.slice bA l.length bc) ?_).mono ?_; exact hb.drew; rintro e w1 ⟨rfl, rfl⟩)
    all_goals
      go_wp2
      first | go_end0 | refine bodyPost_ret (results_none rfl _ _ _) rfl ?_
      exact ⟨rfl, Hw.out.failed, grown_set _ _⟩
end Go.Proofs.YtebnebajedlhlaaDoor
/-
  The last step of every law's row: what was there is as it was, so the arguments read as they read; the result is true.
-/
namespace Go.Proofs.YtebnebajedlhlaaDoor
open Go.ChangeShapes Go.WideShapes Go.ChangeAt Go.RowKit

theorem laid_out : laidOutB Tryd.prog = true := by kernel_rfl

section
variable {H : Type} {enc : TypeId × Value → H} {W W' : World}
theorem trodAll_below : ∀ {ts : List TypeId} {vs : List Value} {ds : List (DataW H)} {ps : List MemPlace}, (∀ t ∈ ts, Tryd.prog.readableRec t = true ∧ t < Tryd.prog.types.size) →
    DataW.TrodAll enc Tryd.prog W 0 (fun _ => true) true ts vs ds ps → Below W.heap.size W W' → (∀ x ∈ ps, x.block < W.heap.size) →
    DataW.TrodAll enc Tryd.prog W' 0 (fun b => decide (b < W.heap.size)) true ts vs ds ps
  | [], [], [], _, _, h, _, _ => h
  | _ :: _, _ :: _, _ :: _, _, hT, ⟨p, q, h1, h2, e⟩, hb, hlt =>
    ⟨p, q, Below.trod laid_out (hT _ (by simp)).1 (hT _ (by simp)).2 h1 hb (fun x hx => hlt x (by rw [e]; exact List.mem_append_left _ hx)),
      trodAll_below (fun t ht => hT t (by simp [ht])) h2 hb (fun x hx => hlt x (by rw [e]; exact List.mem_append_right _ hx)), e⟩

theorem law_post {f : Func} {s : ChangeSpec} {args : Array Value} {ds gs : List (DataW H)} {before : List MemPlace}
    (hW : DataW.Whole enc Tryd.prog f.params.toList s.vars false W args.toList ds gs before) (hv : s.vars = [])
    (hfn : s.fn H (ds ++ gs) = { results := [.lit (.bool true)], args := ds }) (hres : f.resultTypes = #[4])
    (hT : (f.params.toList.all fun t => Tryd.prog.readableRec t && decide (t < Tryd.prog.types.size)) = true) (hb : Below W.heap.size W W') :
    s.post enc Tryd.prog f false true false false W args (.bool true) W' := by
  have hW' := hW
  obtain ⟨p, q, hA, hV, rfl, hfz, hnd⟩ := hW'
  have hlt : ∀ x ∈ p ++ q, x.block < W.heap.size := fun x hx => hW.lt x hx
  have hT' : ∀ t ∈ f.params.toList, Tryd.prog.readableRec t = true ∧ t < Tryd.prog.types.size := fun t ht => by
    have := List.all_eq_true.1 hT t ht
    simpa using this
  refine ⟨ds, gs, p ++ q, [], p, [], hW, ?_, ?_, ?_, hb.frame _, fun h => by cases h⟩
  · rw [hfn, hres]; exact trodAll_mk1 (shut_bool Tryd.underlying4 true)
  · rw [hfn]; exact trodAll_below hT' hA hb (fun x hx => hlt x (List.mem_append_left _ hx))
  · rw [hv, hfn]; rfl
end
end Go.Proofs.YtebnebajedlhlaaDoor
