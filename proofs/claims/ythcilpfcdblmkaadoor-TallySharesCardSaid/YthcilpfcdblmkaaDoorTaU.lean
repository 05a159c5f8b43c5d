/-
  Tally: All, as an iterator over told.
-/
import Derived.Test.YthcilpfcdblmkaaDoorTaBI
import Derived.Test.YthcilpfcdblmkaaDoorRn
namespace Go.Proofs.YthcilpfcdblmkaaDoor
open Go.RowKit Go.Shelf

attribute [local go_sem] Oper.semAt_some

/-- What a loop over All must keep: the words' block, and the iterators' own blocks (from N on). -/
def KpA (N b : Nat) (_ : Nat × Wd Int) (A B : World) : Prop := A.heap.size ≤ B.heap.size ∧ ∀ j o, (N ≤ j ∨ j = b) → A.heap[j]? = some o → o.isCells = true → B.heap[j]? = some o
theorem KpA.refl {N b : Nat} {x : Nat × Wd Int} (A : World) : KpA N b x A A := ⟨Nat.le_refl _, fun _ _ _ h _ => h⟩
theorem KpA.trans {N b : Nat} {x : Nat × Wd Int} {A B C : World} (h : KpA N b x A B) (k : KpA N b x B C) : KpA N b x A C := ⟨Nat.le_trans h.1 k.1, fun j o h1 h2 h3 => k.2 j o h1 (h.2 j o h1 h2 h3) h3⟩
theorem KpA.put {N b : Nat} {x : Nat × Wd Int} {A : World} {l : Nat} {o o' : Obj} (ho : A.heap[l]? = some o) (hc : o.isCells = false) : KpA N b x A (A.putObj l o') :=
  ⟨(grownBy_putObj' A l o').size, fun j q _ hq hqc => ((grownBy_putObj' A l o').block j (Array.getElem?_eq_some_iff.1 hq).1 (fun e => by
    have := Option.some.inj e
    subst this
    rw [ho] at hq
    cases hq
    rw [hc] at hqc
    cases hqc)).trans hq⟩
theorem KpA.of_kept {N b : Nat} {x : Nat × Wd Int} {F : Nat → Prop} {A B : World} (h : Kept F A B) (hF : ∀ k, F k → k < N ∧ k ≠ b) : KpA N b x A B :=
  ⟨h.size, fun j o h1 h2 _ => (h.block j (Array.getElem?_eq_some_iff.1 h2).1 (fun hf => by have := hF j hf; omega)).trans h2⟩
def thE (x : Nat × Wd Int) : Array Value := #[.int .i64 (x.1 : Int), .int .i64 x.2.thing]
def PhiA (W : List (Wd Int)) (pre : List (Nat × Wd Int)) (_ : World → Prop) (x : Nat × Wd Int) (_ : World) : Prop := PhiPI W pre x
theorem PhiA.mono {W : List (Wd Int)} (pre : List (Nat × Wd Int)) (p q : World → Prop) (x : Nat × Wd Int) (V : World) (_ : ∀ U, p U → q U) (k : PhiA W pre p x V) : PhiA W pre q x V := k
theorem ownFrom_up {β : Type} {B B' : Nat} {I : β → World → Prop} (h : OwnFrom B I) (hB : B ≤ B') : OwnFrom B' I := fun s W W' row hs hg hr => h s W W' row hs hg (fun r e => ⟨Nat.le_trans hB (hr r e).1, (hr r e).2⟩)

theorem all_in (F : Fence) (m t : Nat) (w : World) (h : F = Fence.wide) : CallsIn F m Tryd.prog 22 #[.pointer (some ⟨t, 0, none⟩)] w fun e w' => e = .returned (.func (.func 36) #[] #[.pointer (some ⟨w.heap.size, 0, none⟩)]) ∧
      w' = w.alloc (.cells #[.pointer (some ⟨t, 0, none⟩)] 25) := by
  subst h
  refine callsIn_of_wp Tryd.func22 rfl trivial ?_ rfl
  simp only [Tryd.ntmps22, List.size_toArray, List.length_cons, List.length_nil, Nat.reduceAdd, Nat.reduceSub, Array.replicate_succ, Array.replicate_zero, List.push_toArray, List.append_toArray, List.nil_append, List.cons_append]
  gi_wp2
  go_ret
  exact ⟨rfl, rfl⟩

set_option maxRecDepth 100000 in
set_option maxHeartbeats 4000000 in
theorem all1_in (m l bx t b n N : Nat) (W0 : List (Wd Int)) (hm : 4 ≤ m) (hn : W0.length = n) (hnb : n ≤ 1000) (J Jx : List (Nat × Wd Int) → World → Prop) (W : World) (hN : N ≤ W.heap.size)
    (hJ : OwnFrom W.heap.size J) (hJx : OwnFrom W.heap.size Jx)
    (hY : ∀ pre x V, J pre V → PhiPI W0 pre x → YieldAt Fence.wide (m - 1) Tryd.prog l (thE x) V fun e V' =>
      (e = .returned (.bool true) ∧ J (pre ++ [x]) V' ∧ KpA N b x V V' ∧ KeepsFrom W.heap.size V V') ∨ (e = .returned (.bool false) ∧ Jx (pre ++ [x]) V' ∧ KeepsFrom W.heap.size V V'))
    (hc : W.cell? ⟨t, 1, none⟩ = some (.slice (some ⟨b, 0, none⟩) n n)) (hW : WdsI W b W0) (hb : Blk W bx 25 #[.pointer (some ⟨t, 0, none⟩)]) (h0 : J [] W) :
    CallsIn Fence.wide m Tryd.prog 36 #[.func (.yield l) #[] #[], .pointer (some ⟨bx, 0, none⟩)] W fun e W' => (∃ v, e = .returned v) ∧
      ((∃ xs, xs = toldL W0 ∧ J xs W') ∨ (∃ pre, True ∧ Jx pre W')) := by
  have c1 := hb.cell 0
  simp only [List.getElem?_toArray, List.getElem?_cons_zero] at c1
  have c2 : (W.alloc (.cells #[.func (.yield l) #[] #[]] 82)).cell? ⟨bx, 0, none⟩ = some (.pointer (some ⟨t, 0, none⟩)) := (World.grownBy_alloc _ _ none).cell c1 (by simp)
  have HN := Lib.hid (And.intro hn (And.intro hnb (And.intro hc (And.intro hW (And.intro h0 hN)))))
  have HJ := Lib.hid (And.intro hJ hJx)
  have HY := Lib.hid hY
  clear hn hnb hc hW h0 hJ hJx hY hb hN
  refine callsIn_of_wp_marks Tryd.func36 rfl trivial ?_ rfl
  simp only [Tryd.ntmps36, List.size_toArray, List.length_cons, List.length_nil, Nat.reduceAdd, Nat.reduceSub, Array.replicate_succ, Array.replicate_zero, List.push_toArray, List.append_toArray, List.nil_append, List.cons_append]
  gi_wp2
  refine ⟨trivial, fun _ => by omega, ?_⟩
  refine (toldI_in _ _ _ _ rfl).mono ?_
  rintro e w1 ⟨rfl, rfl⟩
  gi_wp2
  obtain ⟨U, hU⟩ : ∃ U, (W.alloc (.cells #[.func (.yield l) #[] #[]] 82)).alloc (.cells #[.pointer (some ⟨t, 0, none⟩)] 25) = U := ⟨_, rfl⟩
  have gU : W.grownBy U none := by rw [← hU]; exact grown_trans (World.grownBy_alloc _ _ none) (World.grownBy_alloc _ _ none)
  have zU : U.heap.size = W.heap.size + 2 := by rw [← hU]; simp
  have by0 : Blk U W.heap.size 82 #[.func (.yield l) #[] #[]] := by rw [← hU]; exact (Blk.new W _ _).alloc _
  have bt : Blk U (W.heap.size + 1) 25 #[.pointer (some ⟨t, 0, none⟩)] := by
    have h := Blk.new (W.alloc (.cells #[.func (.yield l) #[] #[]] 82)) 25 #[.pointer (some ⟨t, 0, none⟩)]
    rw [World.size_alloc, hU] at h
    exact h
  rw [hU]
  clear hU c1 c2
  have htl : t < W.heap.size := World.block_lt_of_cell? W _ HN.out.2.2.1
  have hbl : b < W.heap.size := HN.out.2.2.2.1.lt
  have hcU : U.cell? ⟨t, 1, none⟩ = some (.slice (some ⟨b, 0, none⟩) n n) := gU.cell HN.out.2.2.1 (by simp)
  have hWU : WdsI U b W0 := HN.out.2.2.2.1.grown gU (by simp)
  have HU := Lib.hid (And.intro zU (And.intro hbl HN.out.2.2.2.2.2))
  refine wpIn_rangeFunc_told rfl (by omega) (gf := 42) (lb := #[.pointer (some ⟨W.heap.size + 1, 0, none⟩)]) rfl trivial (enters_of Tryd.func42 (by kernel_rfl) rfl)
    (toldI_seq (m - 1) (by omega) (W.heap.size + 1) t b n W0 HN.out.1 HN.out.2.1 U (by omega) hcU hWU bt) (fun h1 h2 => Still.trans h1 h2)
    (fun x V l o o' hl ho hc _ => Still.put ho hc) PhiWI.mono (Below.refl _ _) (fun _ => rfl)
    (fun pre V => J pre V ∧ Blk V W.heap.size 82 #[.func (.yield l) #[] #[]] ∧ U.heap.size ≤ V.heap.size)
    (fun c pre V => c = .ret ∧ Jx pre V)
    (OwnFrom.and (ownFrom_up HJ.out.1 (by omega)) (OwnFrom.and (ownFrom_blk (fun _ => #[.func (.yield l) #[] #[]])) (fun _ A B row h hg _ => Nat.le_trans h hg.size)))
    (fun c => OwnFrom.and (ownFrom_pure _) (ownFrom_up HJ.out.2 (by omega)))
    ⟨HJ.out.1 _ _ _ none HN.out.2.2.2.2.1 gU (fun _ e => by cases e), by0, Nat.le_refl _⟩
    (fun pre x a' V => ∃ g, U.heap.size ≤ g ∧ (a' = { tmps := #[.func (.yield l) #[] #[], .pointer (some ⟨bx, 0, none⟩), .pointer (some ⟨W.heap.size, 0, none⟩), .int .i64 (x.1 : Int), .pointer (some ⟨g, 0, none⟩), .pointer (some ⟨t, 0, none⟩), .func (.func 42) #[] #[.pointer (some ⟨W.heap.size + 1, 0, none⟩)], .int .i64 (x.1 : Int), .agg #[.bool x.2.said, .int .i64 x.2.key, .int .i64 x.2.thing], undef, undef, undef, undef, undef, undef], defers := [] } ∧ PhiPI W0 pre x) ∧ Blk V g 77 #[.bool x.2.said, .int .i64 x.2.key, .int .i64 x.2.thing])
    (fun pre x a' => ownFrom_ax _ _ _) ?assign ?body ?done ?stop
  case assign =>
    rintro l1 pre x V K hI hphi hK
    obtain ⟨g, hg⟩ : ∃ g, V.heap.size = g := ⟨_, rfl⟩
    have hg1 := World.grownBy_alloc V (.cells #[.bool x.2.said, .int .i64 x.2.key, .int .i64 x.2.thing] 77) none
    have hI2 : J pre (V.alloc (.cells #[.bool x.2.said, .int .i64 x.2.key, .int .i64 x.2.thing] 77)) := HJ.out.1 _ _ _ none hI.1 hg1 (fun _ e => by cases e)
    have hUV := hI.2.2
    have HK := Lib.hid (show K _ (V.alloc (.cells #[.bool x.2.said, .int .i64 x.2.key, .int .i64 x.2.thing] 77)) from hK _ _ ((keeps_grown hg1).from _) (Still.of_kept (Kept.of_grown (F := fun _ => False) hg1 fun _ e => by cases e) (fun _ h => h.elim)) ⟨hI2, hI.2.1.grown hg1 (by simp), Nat.le_trans hUV hg1.size⟩ ⟨V.heap.size, hUV, ⟨rfl, hphi⟩, Blk.new _ _ _⟩)
    clear hK hI hphi hg1 hI2 hUV hg
    simp only [wdEI]
    gi_wp2
    exact HK.out
  case stop =>
    rintro Dd c' pre V hD _ ⟨rfl, hx⟩ hK
    have HB := Lib.hid (And.intro hx (And.intro hK hD))
    clear hx hK hD
    (try dsimp only)
    gi_wp2
    refine ⟨by simp, .inl ⟨_, _, rfl, run_takeDeferred HB.out.2.1, ?_⟩⟩
    exact ⟨_, results_none rfl _ _ _, ⟨_, rfl⟩, .inr ⟨pre, trivial, HJ.out.2.putObj _ HB.out.1 (by have := HB.out.2.2; omega) HB.out.2.1 rfl⟩⟩
  case done =>
    rintro Dd xs V hD hS hI hK
    subst hS
    have HB := Lib.hid (And.intro hI.1 (And.intro hK hD))
    clear hI hK hD
    (try dsimp only)
    gi_wp2
    refine ⟨by simp, .inl ⟨_, _, rfl, run_takeDeferred HB.out.2.1, ?_⟩⟩
    exact ⟨_, results_none rfl _ _ _, ⟨_, rfl⟩, .inl ⟨_, rfl, HJ.out.1.putObj _ HB.out.1 (by have := HB.out.2.2; omega) HB.out.2.1 rfl⟩⟩
  case body =>
    rintro l1 pre x a' V hl0 hl1 hI ⟨g, hgU, ⟨rfl, hphi⟩, hbg⟩
    have hyy := YieldAt.within (m' := m - 1 - 1 - 1) (l1 := l1) (HY.out pre x V hI.1 hphi)
    obtain ⟨i, ⟨sd, ky, th⟩⟩ := x
    simp only [thE] at hyy
    obtain ⟨fn, tmps, assign, body, hyv, hR⟩ := hyy
    have HR := Lib.hid hR
    have HI := Lib.hid hI
    have cy := hI.2.1.cell 0
    have q2 := hbg.cell 2
    simp only [List.getElem?_toArray, List.getElem?_cons_zero, List.getElem?_cons_succ] at cy q2
    clear hR hI
    gi_wp2
    refine ⟨fun _ => by omega, ?_⟩
    refine HR.out.mono ?_
    rintro e V3 (⟨rfl, hJ3, hk3, hf3⟩ | ⟨rfl, hJ3, hf3⟩)
    · have hk4 : KeepsFrom U.heap.size V V3 := ⟨hf3.size, fun k o hB hk ho => hf3.same k o (by have := HU.out.1; omega) hk ho⟩
      have H3 := Lib.hid (And.intro hJ3 (And.intro hk3 hk4))
      clear hJ3 hk3 hf3 hk4
      gi_wp2
      have hb3 := H3.out.2.1.2 W.heap.size _ (.inl HN.out.2.2.2.2.2) HI.out.2.1 rfl
      exact ⟨H3.out.2.2, ⟨H3.out.2.1.1, fun j o h1 h2 h3 h4 => H3.out.2.1.2 j o (.inr (by omega)) h3 h4⟩, H3.out.1, hb3, Nat.le_trans HI.out.2.2 H3.out.2.1.1⟩
    · have hk4 : KeepsFrom U.heap.size V V3 := ⟨hf3.size, fun k o hB hk ho => hf3.same k o (by have := HU.out.1; omega) hk ho⟩
      have H3 := Lib.hid (And.intro hJ3 hk4)
      clear hJ3 hf3 hk4
      gi_wp2
      exact ⟨H3.out.2, rfl, H3.out.1⟩
theorem all_seq (m : Nat) (hm : 4 ≤ m) (bx t b n : Nat) (W0 : List (Wd Int)) (hn : W0.length = n) (hnb : n ≤ 1000) (w : World) (ht : t < w.heap.size) (hc : w.cell? ⟨t, 1, none⟩ = some (.slice (some ⟨b, 0, none⟩) n n)) (hW : WdsI w b W0) (hb : Blk w bx 25 #[.pointer (some ⟨t, 0, none⟩)]) :
    SeqToldO Fence.wide m Tryd.prog 36 #[.pointer (some ⟨bx, 0, none⟩)] thE (KpA w.heap.size b) (PhiA W0) (fun xs => xs = toldL W0) (fun _ => True) w := fun l J Jx W hB hJ hJx hY h0 =>
  all1_in m l bx t b n w.heap.size W0 hm hn hnb J Jx W hB.size hJ hJx hY ((hB.cell (p := ⟨t, 1, none⟩) ht).trans hc) ((hB.block _ hW.lt).trans hW) ((hB.block _ hb.lt).trans hb) h0
end Go.Proofs.YthcilpfcdblmkaaDoor
