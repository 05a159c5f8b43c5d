/-
  Several texts in one: TaEI, TaV, Wh, TaZ, TaWk.
-/
import Derived.Test.YthcilpfcdblmkaaDoorTaBI
import Derived.Test.YthcilpfcdblmkaaDoorTaH
import Derived.Test.YthcilpfcdblmkaaDoorTaX
import Derived.Test.YthcilpfcdblmkaaDoorGe
import Derived.Deep.RegionHeld3
import Derived.Test.YthcilpfcdblmkaaDoorTaY
import Derived.Test.YthcilpfcdblmkaaDoorTaArg
/-
  Tally, keys of type int: Len.
-/
namespace Go.Proofs.YthcilpfcdblmkaaDoor
open Go.RowKit Go.Shelf

attribute [local go_sem] Oper.semAt_some

def CntI (r0 : Nat) (w0 : World) (n : Nat) (W : World) : Prop := Kept (fun j => r0 ≤ j) w0 W ∧ Blk W r0 3 #[.int .i64 (n : Int)]
theorem cnt_own {β : Type} {r0 : Nat} {w0 : World} (f : β → Nat) {B : Nat} (hB : r0 ≤ B) : OwnFrom B (fun s W => CntI r0 w0 (f s) W) := fun s W W' row hs hg hr => by
  have same := cells_same hg (fun r e => (hr r e).2)
  exact ⟨hs.1.next (Kept.of_grown (F := fun j => r0 ≤ j) hg (fun r e => by have := (hr r e).1; omega)) (fun _ _ h => h), same _ _ hs.2 rfl⟩

set_option maxRecDepth 100000 in
set_option maxHeartbeats 4000000 in
theorem lenI_is (w : World) (t b n : Nat) (W0 : List (Wd Int)) (hn : W0.length = n) (hnb : n ≤ 1000) (hc : w.cell? ⟨t, 1, none⟩ = some (.slice (some ⟨b, 0, none⟩) n n)) (hW : WdsI w b W0) :
    Calls Tryd.prog 13 #[.pointer (some ⟨t, 0, none⟩)] w fun e w' => e = .returned (.int .i64 ((toldL W0).length : Int)) ∧ w.grownBy w' none := by
  have HN := Lib.hid (And.intro hn (And.intro hnb (And.intro hc hW)))
  clear hn hnb hc hW
  refine (callsIn_wide (n := 6)).1 ?_
  refine callsIn_of_wp_marks Tryd.func13 rfl trivial ?_ rfl
  simp only [Tryd.ntmps13, List.size_toArray, List.length_cons, List.length_nil, Nat.reduceAdd, Nat.reduceSub, Array.replicate_succ, Array.replicate_zero, List.push_toArray, List.append_toArray, List.nil_append, List.cons_append]
  gi_wp2
  refine ⟨trivial, ?_⟩
  refine (toldI_in _ _ _ _ rfl).mono ?_
  rintro e w1 ⟨rfl, rfl⟩
  gi_wp2
  obtain ⟨U, hU⟩ : ∃ U, (w.alloc (.cells #[.int .i64 0] 3)).alloc (.cells #[.pointer (some ⟨t, 0, none⟩)] 25) = U := ⟨_, rfl⟩
  have g3 : w.grownBy U none := by rw [← hU]; exact grown_trans (World.grownBy_alloc _ _ none) (World.grownBy_alloc _ _ none)
  have z3 : U.heap.size = w.heap.size + 2 := by rw [← hU]; simp
  have bk : Blk U w.heap.size 3 #[.int .i64 0] := by rw [← hU]; exact (Blk.new w _ _).alloc _
  have bt : Blk U (w.heap.size + 1) 25 #[.pointer (some ⟨t, 0, none⟩)] := by
    have h := Blk.new (w.alloc (.cells #[.int .i64 0] 3)) 25 #[.pointer (some ⟨t, 0, none⟩)]
    rw [World.size_alloc, hU] at h
    exact h
  rw [hU]
  clear hU
  have hst : CntI w.heap.size U 0 U := ⟨Kept.refl _ _, bk⟩
  have htl : t < w.heap.size := World.block_lt_of_cell? w _ HN.out.2.2.1
  have hbl : b < w.heap.size := HN.out.2.2.2.lt
  have HU := Lib.hid (And.intro g3 (And.intro z3 (And.intro htl hbl)))
  have hcU : U.cell? ⟨t, 1, none⟩ = some (.slice (some ⟨b, 0, none⟩) n n) := g3.cell HN.out.2.2.1 (by simp)
  have hWU : WdsI U b W0 := HN.out.2.2.2.grown g3 (by simp)
  refine wpIn_rangeFunc_told rfl (by omega) (gf := 42) (lb := #[.pointer (some ⟨w.heap.size + 1, 0, none⟩)]) rfl trivial (enters_of Tryd.func42 (by kernel_rfl) rfl)
    (toldI_seq 5 (by omega) (w.heap.size + 1) t b n W0 HN.out.1 HN.out.2.1 U (by omega) hcU hWU bt) (fun h1 h2 => Still.trans h1 h2)
    (fun x W l o o' hl ho hc _ => Still.put ho hc) PhiWI.mono (Below.refl _ _) (fun _ => rfl)
    (fun pre W => CntI w.heap.size U pre.length W)
    (fun _ _ _ => False)
    (cnt_own (fun pre : List (Nat × Wd Int) => pre.length) (Nat.le_trans (by omega) (Nat.le_refl U.heap.size)))
    (fun _ s W W' row h _ _ => h)
    hst
    (fun pre x a' W => a' = { tmps := #[.pointer (some ⟨t, 0, none⟩), undef, .int .i64 0, .pointer (some ⟨w.heap.size, 0, none⟩), .pointer (some ⟨t, 0, none⟩), .func (.func 42) #[] #[.pointer (some ⟨w.heap.size + 1, 0, none⟩)], .int .i64 (x.1 : Int), .agg #[.bool x.2.said, (.int .i64 x.2.key), .int .i64 x.2.thing], undef, undef, undef], defers := [] } ∧ PhiPI W0 pre x)
    (fun pre x a' => ownFrom_pure _) ?assign ?body ?done ?stop
  case assign =>
    rintro l pre x W K hI hphi hK
    have HK := Lib.hid (hK _ W ((keeps_grown (World.grownBy.refl W none)).from _) (Still.refl _ _ _) hI ⟨rfl, hphi⟩)
    clear hK hI hphi
    simp only [wdEI]
    gi_wp2
    simpa using HK.out
  case stop => rintro Dd c' pre W _ _ h; exact h.elim
  case body =>
    rintro l pre x a' W hl0 hl1 hI ⟨rfl, hphi⟩
    have hpl : pre.length ≤ 1000 := by
      obtain ⟨k, hk, hpre, _⟩ := hphi
      have := toldK_length_le W0 k
      have := HN.out.1
      have := HN.out.2.1
      rw [hpre]; omega
    obtain ⟨h1, h2⟩ := hI
    obtain ⟨m, hm⟩ : ∃ m, pre.length = m := ⟨_, rfl⟩
    rw [hm] at h2 hpl
    have hs := h2.set 0 (.int .i64 ((m : Int) + 1))
    have c0 := h2.cell 0
    have f0 := h2.frozen 0
    simp only [List.getElem?_toArray, List.getElem?_cons_zero] at c0
    have KS : Kept (fun j => w.heap.size ≤ j) W (W.setCell ⟨w.heap.size, 0, none⟩ (.int .i64 ((m : Int) + 1))) := (Kept.refl (fun j => w.heap.size ≤ j) W).set (p := ⟨w.heap.size, 0, none⟩) (.inl (Nat.le_refl _)) _
    have HB := Lib.hid (And.intro h1 (And.intro hm (And.intro hs KS)))
    clear h1 h2 hm hs KS hphi
    gi_wp2
    refine ⟨(KeepsOthers.setCell _ _ _).from _, Still.of_kept HB.out.2.2.2 (fun k hk hb => by have hk : w.heap.size ≤ k := hk; have := HU.out.2.2.2; omega), HB.out.1.next HB.out.2.2.2 (fun _ _ h => h), ?_⟩
    have h := HB.out.2.2.1
    rw [List.length_append, HB.out.2.1, List.length_singleton]
    simpa using h
  case done =>
    rintro Dd xs W hD hS hI hK
    subst hS
    obtain ⟨h1, h2⟩ := hI
    have c0 := h2.cell 0
    simp only [List.getElem?_toArray, List.getElem?_cons_zero] at c0
    have HB := Lib.hid (And.intro h1 (And.intro hK hD))
    clear h1 h2 hK hD
    (try dsimp only)
    gi_wp2
    refine ⟨by simp, .inl ⟨_, _, rfl, run_takeDeferred HB.out.2.1, ?_⟩⟩
    obtain ⟨h1, hK, hD⟩ := HB.out
    have hp := Kept.of_grown (F := fun j => j = Dd) (grownBy_putObj' W Dd (.deferred none)) (fun j e => (Option.some.inj e).symm)
    exact ⟨_, results_tmp rfl _ _ _, rfl, (((Kept.of_grown (F := fun j => w.heap.size ≤ j) HU.out.1 fun _ e => by cases e).next h1 (fun k _ h => h)).next hp (fun k _ h => by have h : k = Dd := h; have := HU.out.2.1; show w.heap.size ≤ k; omega)).grownNone (fun k hk (h : w.heap.size ≤ k) => by omega)⟩
end Go.Proofs.YthcilpfcdblmkaaDoor
/-
  TallyShares: the powers of unlike keys together are that of all words (pure).
-/

namespace Go.Proofs.YthcilpfcdblmkaaDoor
open Go.RowKit Go.Maps

def sB (W : List (Wd Int)) (i : Nat) : Bool := match W[i]? with
  | some x => x.said
  | none => false
/-- The places whose key is no longer to come. -/
def gB (W : List (Wd Int)) (L : Lit → Bool) (i : Nat) : Bool := match W[i]? with
  | some x => x.said && !L (.int .i64 x.key)
  | none => false
theorem sameKey_int (a b : Int) : (Lit.int .i64 a).sameKey (.int .i64 b) = decide (a = b) := by
  by_cases h : a = b
  · subst h; simp [Lit.sameKey]
  · rw [sameKey_ne (fun e => h (by injection e))]; simp [h]
theorem wB_false (V : List Vd) (b : Nat → Bool) (n : Nat) (h : ∀ i, i < n → b i = false) : wB V b n = 0 := by
  induction n with
  | zero => rfl
  | succ n ih => simp [wB, ih (fun i hi => h i (by omega)), h n (by omega)]
theorem wB_nonneg {V : List Vd} (hr : rightS V = true) (b : Nat → Bool) (n : Nat) (hn : n ≤ V.length) : 0 ≤ wB V b n := by
  have := wB_mono hr (b := fun _ => false) (c := b) n hn (fun _ _ h => by cases h)
  rwa [wB_false V _ n (fun _ _ => rfl)] at this
theorem wB_le {V : List Vd} (hr : rightS V = true) (b : Nat → Bool) : wB V b V.length ≤ 7696581394432 := by
  have := wB_mono hr (b := b) (c := fun _ => true) V.length (Nat.le_refl _) (fun _ _ _ => rfl)
  rw [wB_total] at this
  have := total_bound hr
  omega
theorem g_start {V : List Vd} {W : List (Wd Int)} {L : Lit → Bool} (hW : W.length = V.length) (h : ∀ i (hi : i < W.length), W[i].said = true → L (.int .i64 W[i].key) = true) : wB V (gB W L) V.length = 0 :=
  wB_false V _ _ (fun i hi => by
    have hi : i < W.length := by omega
    rw [gB, List.getElem?_eq_getElem hi]
    cases hs : W[i].said
    · simp [hs]
    · simp [hs, h i hi hs])
theorem g_step {V : List Vd} {W : List (Wd Int)} {L : Lit → Bool} {x : Int} (hW : W.length = V.length) (hx : L (.int .i64 x) = true) : wB V (gB W fun z => L z && !z.sameKey (.int .i64 x)) V.length = wB V (gB W L) V.length + wB V (bK W x) V.length := by
  have ha := wB_and V (gB W L) (bK W x) V.length
  rw [wB_false V (fun i => gB W L i && bK W x i) _ (fun i hi => by
    have hi : i < W.length := by omega
    rw [gB, bK, List.getElem?_eq_getElem hi]
    by_cases h : W[i].key = x
    · simp [h, hx]
    · simp [h])] at ha
  rw [← ha, Int.zero_add]
  refine wB_congr V _ (fun i hi => ?_)
  have hi : i < W.length := by omega
  rw [gB, gB, bK, List.getElem?_eq_getElem hi]
  simp only [sameKey_int]
  by_cases h : W[i].key = x
  · rw [h]; cases W[i].said <;> simp [hx]
  · cases W[i].said <;> simp [h]
theorem g_end {V : List Vd} {W : List (Wd Int)} {L : Lit → Bool} (h : ∀ kl, L kl = false) : wB V (gB W L) V.length = wB V (sB W) V.length :=
  wB_congr V _ (fun i _ => by
    unfold gB sB
    cases W[i]? <;> simp [h])
theorem wB_one {V : List Vd} {b c : Nat → Bool} {i : Nat} (hb : b i = false) (hc : c i = true) (h : ∀ j, j ≠ i → c j = b j) : ∀ n, wB V c n = wB V b n + if i < n then pAt V i else 0
  | 0 => by simp [wB]
  | n + 1 => by
    have ih := wB_one (V := V) hb hc h n
    simp only [wB]
    rw [ih]
    by_cases e : n = i
    · subst e
      simp [hb, hc]
    · rw [h n e]
      by_cases h2 : i < n
      · rw [if_pos h2, if_pos (show i < n + 1 by omega)]; omega
      · rw [if_neg h2, if_neg (show ¬ i < n + 1 by omega)]; omega
theorem s_set {V : List Vd} {W : List (Wd Int)} (hW : W.length = V.length) {i : Nat} (hi : i < W.length) (hs : W[i].said = false) (key x : Int) : wB V (sB (W.set i ⟨true, key, x⟩)) V.length = wB V (sB W) V.length + pAt V i := by
  rw [wB_one (b := sB W) (i := i) (by rw [sB, List.getElem?_eq_getElem hi]; exact hs) (by simp [sB, hi]) (fun j hj => by simp only [sB, List.getElem?_set_ne (fun e => hj e.symm)]), if_pos (by omega)]
def SetK (D : DataW Unit) (W : List (Wd Int)) : Prop := ∀ i (h : i < W.length), W[i].said = true → Maps.has D (.int .i64 W[i].key) = true
theorem setK_put {D : DataW Unit} {W : List (Wd Int)} (hT : IsMap D) (h : SetK D W) {i : Nat} (_ : i < W.length) (key x : Int) (d : DataW Unit) : SetK (D.put (.int .i64 key) d) (W.set i ⟨true, key, x⟩) := fun j hj hs => by
  rw [List.length_set] at hj
  by_cases e : i = j
  · subst e
    rw [List.getElem_set_self]
    exact has_put_same hT (show WideAt.IsKeyLit (.int .i64 key) from trivial) d
  · rw [List.getElem_set_ne e] at hs ⊢
    by_cases hk : W[j].key = key
    · rw [hk]; exact has_put_same hT (show WideAt.IsKeyLit (.int .i64 key) from trivial) d
    · rw [has_put_other (fun e2 => hk (by injection e2))]; exact h j hj hs
theorem toldK_mono (W : List (Wd Int)) (k : Nat) : ∀ m, k ≤ m → m ≤ W.length → (toldK W k).length ≤ (toldK W m).length
  | 0, h, _ => by obtain rfl : k = 0 := by omega
                  exact Nat.le_refl _
  | m + 1, h, hm => by
    by_cases e : k = m + 1
    · subst e; exact Nat.le_refl _
    · have := toldK_mono W k m (by omega) (by omega)
      rw [toldK_succ W m (by omega), List.length_append]
      omega
theorem phi_lt {W : List (Wd Int)} {pre : List (Nat × Wd Int)} {x : Nat × Wd Int} (h : PhiPI W pre x) : pre.length + 1 ≤ (toldL W).length := by
  obtain ⟨k, hk, hp, _, hs⟩ := h
  have h1 := toldK_mono W (k + 1) W.length (by omega) (Nat.le_refl _)
  rw [toldK_yes hk hs, List.length_append, List.length_singleton] at h1
  rw [hp]; exact h1
theorem power_eq {V : List Vd} (hr : rightS V = true) {W : List (Wd Int)} (hW : W.length = V.length) (key : Int) : sumVal V (whoL W key) = wB V (bK W key) V.length := by
  rw [whoL_chosen, hW, chosen_val hr]
theorem some_bound (a : Int) : 0 ≤ wrap64 ((IntKind.u64.wrap a).tmod 8) ∧ wrap64 ((IntKind.u64.wrap a).tmod 8) < 8 := by
  have h : 0 ≤ IntKind.u64.wrap a := by
    simp only [IntKind.wrap, IntKind.signed, IntKind.bits, Bool.false_and, Bool.false_eq_true, if_false]
    omega
  have h1 := Int.tmod_nonneg 8 h
  have h2 := Int.tmod_lt_of_pos (IntKind.u64.wrap a) (show (0 : Int) < 8 by decide)
  unfold wrap64
  omega
theorem inBlock_out {id : Nat} {Q : Exit → Act → World → Prop} {e : Exit} {a : Act} {w : World} (he : e = .normal ∨ e = .exit id) (h : Q .normal a w) : Exit.inBlock id Q e a w := by
  rcases he with rfl | rfl <;> simpa [Exit.inBlock] using h
end Go.Proofs.YthcilpfcdblmkaaDoor
/-
  Drawn regions in a wide fence, outside a round.
-/
namespace Go.Proofs.YthcilpfcdblmkaaDoor
open Go.RowKit Go.Shelf

section
variable {P : Program} {ops : Array Oper} {Q : Exit → Act → World → Prop} {md : Region.Mode}
theorem wpOpIn_of_wpOp_wide (n : Nat) (hops : ∀ o ∈ ops, ∀ c, o.op ≠ .defer c) (hQ : ¬ LetsOut Q) {i : Nat} {K : Act → World → Prop} {a : Act} {w : World} (h : wpOp P ops Q i K a w) : wpOpIn Fence.wide n P ops Q i K a w := by
  unfold wpOp at h
  unfold wpOpIn
  cases ho : ops[i]? with
  | none => simpa [ho] using h
  | some o =>
    simp only [ho] at h ⊢
    split
    · rename_i hw
      rw [if_pos hw] at h
      rcases h with h | ⟨_, h⟩
      · unfold Oper.wp at h
        unfold Oper.wpIn
        refine ⟨fun _ _ => trivial, ?_⟩
        rw [Oper.semAt_plain _ _ o (hops o (Array.mem_of_getElem? ho))]
        generalize (execOp a.eval o).run P w = r at *
        cases r with
        | ok x w' =>
          cases x <;> simp only [Oper.upon, Oper.uponIn] at h ⊢ <;> first
            | exact h
            | exact ⟨fun hd => (by cases hd), callsIn_wide.2 h⟩
            | exact ⟨fun hd => (by cases hd), fun c cs _ => by
                obtain ⟨v, w2, h1, h2⟩ := h c cs
                exact ⟨v, w2, h1, stepsIn_wide.2 h2⟩⟩
        | halt x w' => cases x <;> simp only [Oper.upon, Oper.uponIn] at h ⊢ <;> exact h
      · exact absurd h hQ
    · rename_i hw
      rw [if_neg hw] at h
      exact ⟨fun _ _ => trivial, h⟩
theorem wpAnyIn_of_wpAny_wide (n : Nat) (hops : ∀ o ∈ ops, ∀ c, o.op ≠ .defer c) (hQ : ¬ LetsOut Q) : ∀ (fuel : Nat) (listed : Array Bool) (a : Act) (w : World), wpAny P md ops Q fuel listed a w → wpAnyIn Fence.wide n P md ops Q fuel listed a w
  | 0, _, _, _, h => h
  | fuel + 1, _, _, _, h => ⟨h.1, fun i hi => wpOpIn_of_wpOp_wide n hops hQ (wpOp_mono (fun a w => wpAnyIn_of_wpAny_wide n hops hQ fuel _ a w) (h.2 i hi))⟩
theorem wpIn_region_held_wide {n id : Nat} {a : Act} {w : World} (S : World → Prop) (hm : P.follows .mixedOrders = true) (hops : (ops.all fun o => match o.op with | .defer _ => false | _ => true) = true) (hQ : ¬ LetsOut Q) (hS : S w.drew)
    (h : S w.drew → wpAnyH P .any ops Q S ops.size (Array.replicate ops.size false) a w.drew) : (Code.region id ops true).wpIn Fence.wide n P Q a w :=
  wpIn_region_any hm (wpAnyIn_of_wpAny_wide n (fun o ho c e => by
    have := (Array.all_eq_true_iff_forall_mem.1 hops) o ho
    rw [e] at this
    cases this) hQ _ _ _ _ (wpAny_of_held _ _ _ _ (h hS)))
end
end Go.Proofs.YthcilpfcdblmkaaDoor
/-
  TallyShares, walked.
-/
namespace Go.Proofs.YthcilpfcdblmkaaDoor
open Go.RowKit Go.Shelf Go.Maps

attribute [local go_sem] Oper.semAt_some

theorem vd_cell {w : World} {A : Option Addr} {V : List Vd} (h : VdsAt w A V) (ok : keysOk V) (hne : V ≠ []) : ∃ b off, A = some ⟨b, off, none⟩ ∧ ∀ k (hk : k < V.length), w.cell? ⟨b, off + k * 17 + 16, none⟩ = some (.int .i64 V[k].p) := by
  obtain ⟨b, off, e, hc⟩ := h hne
  exact ⟨b, off, e, fun k hk => vd_power (ok _ (List.getElem_mem hk)) (hc k hk)⟩
/-- The law's count of words looked at. -/
def ShI (p1 : Nat) (sv : Int) (U : World) (pre : List (Nat × Wd Int)) (W : World) : Prop := Kept (fun j => j = p1) U W ∧ Blk W p1 3 #[.int .i64 (pre.length : Int)] ∧ (pre.length : Int) ≤ sv
def ShX (p1 : Nat) (sv tl : Int) (U : World) (c : Code) (_ : List (Nat × Wd Int)) (W : World) : Prop := c = .exit 4 ∧ Kept (fun j => j = p1) U W ∧ Blk W p1 3 #[.int .i64 sv] ∧ sv ≤ tl
theorem shI_own {p1 : Nat} {sv : Int} {U : World} {B : Nat} (hB : U.heap.size ≤ B) : OwnFrom B (fun s W => ShI p1 sv U s W) := fun s W W' row hs hg hr => by
  have same := cells_same hg (fun r e => (hr r e).2)
  exact ⟨hs.1.next (Kept.of_grown (F := fun j => U.heap.size ≤ j) hg (fun r e => by have := (hr r e).1; omega)) (fun k hk h => absurd h (by omega)), same _ _ hs.2.1 rfl, hs.2.2⟩
theorem shX_own {p1 : Nat} {sv tl : Int} {U : World} {c : Code} {B : Nat} (hB : U.heap.size ≤ B) : OwnFrom B (fun s W => ShX p1 sv tl U c s W) := fun s W W' row hs hg hr => by
  have same := cells_same hg (fun r e => (hr r e).2)
  exact ⟨hs.1, hs.2.1.next (Kept.of_grown (F := fun j => U.heap.size ≤ j) hg (fun r e => by have := (hr r e).1; omega)) (fun k hk h => absurd h (by omega)), same _ _ hs.2.2.1 rfl, hs.2.2.2⟩
set_option maxRecDepth 100000 in
set_option maxHeartbeats 4000000 in
theorem shares_any (w : World) (A Aw : Option Addr) (c cw n : Nat) (V : List Vd) (ms : List Wm) (asked : Int) (es er et : Addr) (hV : VdsAt w A V) (ok : keysOk V) (hn : ms.length = n) (hM : WmsAt w Aw ms) (hwf : ∀ m ∈ ms, (Lit.int .i64 m.key).wf = true) (he : ErrAt w w.heap.size 10 es) (her : ErrAt w w.heap.size 0 er) (het : ErrAt w w.heap.size 16 et) :
    Calls Tryd.prog 6 #[.slice A V.length c, .slice Aw n cw, .int .i64 asked] w fun e w' => e = .returned (.bool true) ∧ w.grownBy w' none := by
  have HE := Lib.hid (And.intro he (And.intro her het))
  have HV := Lib.hid (And.intro hV ok)
  have HM := Lib.hid (And.intro hn (And.intro hM hwf))
  clear he her het hV ok hM hn hwf
  obtain ⟨nv, hnv⟩ : ∃ nv, V.length = nv := ⟨_, rfl⟩
  rw [hnv]
  have HNV := Lib.hid hnv
  clear hnv
  have hmm := @run_makeMap Tryd.prog
  refine (callsIn_wide (n := 9)).1 ?_
  refine callsIn_of_wp_marks Tryd.func6 rfl trivial ?_ rfl
  simp only [Tryd.ntmps6, List.size_toArray, List.length_cons, List.length_nil, Nat.reduceAdd, Nat.reduceSub, Array.replicate_succ, Array.replicate_zero, List.push_toArray, List.append_toArray, List.nil_append, List.cons_append]
  obtain ⟨w0, hw0⟩ : ∃ w0, w.alloc (.cells #[.int .i64 asked] 3) = w0 := ⟨_, rfl⟩
  obtain ⟨r0, hr0⟩ : ∃ r0, w.heap.size = r0 := ⟨_, rfl⟩
  have g0 : w.grownBy w0 none := by rw [← hw0]; exact World.grownBy_alloc _ _ none
  have b0 : Blk w0 r0 3 #[.int .i64 asked] := by rw [← hw0, ← hr0]; exact Blk.new _ _ _
  have H0 := Lib.hid (And.intro g0 b0)
  have hB0 : w.heap.size ≤ w0.heap.size := g0.size
  clear g0 b0
  gi_wp2
  (try rw [hw0])
  (try rw [hr0])
  refine ⟨trivial, ?_⟩
  refine (callsIn_wide.2 (alive10_is w0 w.heap.size es er et hB0 (HE.out.1.grown H0.out.1 (by simp)) (HE.out.2.1.grown H0.out.1 (by simp)) (HE.out.2.2.grown H0.out.1 (by simp)))).mono ?_
  rintro e w1 ⟨rfl, k1⟩
  have K1 := Lib.hid (And.intro (grown_trans H0.out.1 k1) (H0.out.2.grown k1 (by simp)))
  clear k1 hw0
  have RES := Lib.hid hr0
  clear hr0
  by_cases h1 : 30 < nv
  · have d1 : decide ((30 : Int) < (nv : Int)) = true := by simp; omega
    gi_wp2
    exact ⟨_, results_tmp rfl _ _ _, rfl, K1.out.1⟩
  have d1 : decide ((30 : Int) < (nv : Int)) = false := by simp; omega
  by_cases h2 : 30 < n
  · have d2 : decide ((30 : Int) < (n : Int)) = true := by simp; omega
    gi_wp2
    exact ⟨_, results_tmp rfl _ _ _, rfl, K1.out.1⟩
  have d2 : decide ((30 : Int) < (n : Int)) = false := by simp; omega
  have hb30 : nv ≤ 30 ∧ n ≤ 30 := by omega
  clear h1 h2
  gi_wp2
  have hl30 : V.length < 1000 := by have := HNV.out; omega
  have HN1 := Lib.hid (newI_is w1 A c w.heap.size V es (HV.out.1.grown K1.out.1) HV.out.2 hl30 (HE.out.1.grown K1.out.1 (by simp)))
  rw [HNV.out] at HN1
  refine ⟨trivial, ?_⟩
  refine (callsIn_wide.2 HN1.out).mono ?_
  rintro e w3 ⟨k3, ⟨hr, rfl⟩ | ⟨hr, t, b, rfl, hT⟩⟩
  · have K3 := Lib.hid (grown_trans K1.out.1 k3)
    clear k3 hr
    gi_wp2
    exact ⟨_, results_tmp rfl _ _ _, rfl, K3.out⟩
  obtain ⟨lo, hlo⟩ : ∃ lo, w1.heap.size = lo := ⟨_, rfl⟩
  obtain ⟨hi, hhi⟩ : ∃ hi, w3.heap.size = hi := ⟨_, rfl⟩
  have hne : V ≠ [] := by rintro rfl; have := (right_powers hr).2.1; simp at this
  have hv7 := (right_powers hr).1
  have hT3 := hT.mono (T := fun k => lo ≤ k ∧ k < hi) (fun k hk h => ⟨by have h : w1.heap.size ≤ k := h; omega, by omega⟩) hne
  have hw3 := grown_trans K1.out.1 k3
  obtain ⟨w5, hw5⟩ : ∃ w5, w3.alloc (.map #[] 0) = w5 := ⟨_, rfl⟩
  have g5 : w3.grownBy w5 none := by rw [← hw5]; exact World.grownBy_alloc w3 (.map #[] 0) none
  have m5 : w5.ownsMap Tryd.prog 3 (plainElem (H := Unit) Tryd.prog 4) hi 0 (.map []) := by
    have h := World.ownsMap_made (H := Unit) w3 Tryd.prog 3 (plainElem Tryd.prog 4)
    rw [hhi, hw5] at h
    exact h
  have hrep : List.replicate V.length (⟨false, 0, 0⟩ : Wd Int) = List.replicate nv ⟨false, 0, 0⟩ := by rw [HNV.out]
  have hW0 : ∃ W : List (Wd Int), W.length = V.length ∧ wB V (sB W) V.length = 0 ∧ SetK (.map []) W ∧ TalI w5 (fun k => lo ≤ k ∧ k < hi) t b V W := ⟨List.replicate V.length ⟨false, 0, 0⟩, by simp, wB_false V _ _ (fun i hi => by simp [sB, hi]), fun i hi h => by simp at h, by rw [hrep]; exact hT3.grown g5⟩
  obtain ⟨bv, ov, hAv, hpv⟩ := vd_cell HV.out.1 HV.out.2 hne
  subst hAv
  have H5 := Lib.hid (And.intro (grown_trans hw3 g5) (And.intro (K1.out.2.grown (grown_trans k3 g5) (by simp)) (And.intro m5 (And.intro hr (And.intro hpv (show w.heap.size ≤ lo ∧ lo ≤ b ∧ b < hi ∧ r0 < lo ∧ w.heap.size = r0 from ⟨by rw [← hlo]; exact K1.out.1.size, hT3.2.1.1, hT3.2.1.2, by rw [← hlo]; exact K1.out.2.lt, RES.out⟩))))))
  have HW0 := Lib.hid hW0
  clear k3 hr hT hlo hne hT3 hw3 g5 m5 hW0 hrep hB0 hpv
  gi_wp2
  (try rw [hhi])
  (try rw [hw5])
  clear hw5 hhi
  gi_loopw [38, 9] (fun i v9 wr => ∃ k : Nat, k ≤ n ∧ i = .int .i64 (k : Int) ∧ ∃ (W : List (Wd Int)) (D : DataW Unit), v9 = .int .i64 (wB V (sB W) V.length) ∧ W.length = V.length ∧ SetK D W ∧ TalI wr (fun k => lo ≤ k ∧ k < hi) t b V W ∧ wr.ownsMap Tryd.prog 3 (plainElem (H := Unit) Tryd.prog 4) hi k D ∧ Kept (fun j => w.heap.size ≤ j) w wr ∧ Blk wr r0 3 #[.int .i64 asked]) (fun i _ _ => n - (intOf i).toNat)
  case atStart =>
    obtain ⟨W, q1, q2, q3, q4⟩ := HW0.out
    exact ⟨0, by omega, rfl, W, .map [], by rw [q2], q1, q3, q4, H5.out.2.2.1, Kept.of_grown (F := fun j => w.heap.size ≤ j) H5.out.1 (fun _ e => by cases e), H5.out.2.1⟩
  case round =>
    obtain ⟨k, hk, hi9, W9, D9, hy8, hWl, hSK, hT, hmp, hK, hbr⟩ := hrel
    obtain ⟨J, hJ⟩ : ∃ J : Int, J = (k : Int) := ⟨_, rfl⟩
    rw [← hJ] at hi9
    subst hi9
    subst hy8
    obtain ⟨sm, hsm⟩ : ∃ sm, wB V (sB W9) V.length = sm := ⟨_, rfl⟩
    have hsmb : 0 ≤ sm ∧ sm ≤ 7696581394432 := by rw [← hsm]; exact ⟨wB_nonneg H5.out.2.2.2.1 _ _ (Nat.le_refl _), wB_le H5.out.2.2.2.1 _⟩
    rw [hsm]
    by_cases hlt : k < n
    · have e3 : decide (J < (n : Int)) = true := by simp; omega
      have hkm : k < ms.length := by have := HM.out.1; omega
      obtain ⟨bw, ow, hAw, hcw⟩ := HM.out.2.1 (by rintro rfl; simp at hkm)
      subst hAw
      have hkJ : J.toNat = k := by omega
      have nof : ∀ {q : Addr} {v : Value}, w.cell? q = some v → ¬ (w.heap.size ≤ q.block) := fun h => by have := World.block_lt_of_cell? w _ h; omega
      have x0 := hK.cell (hcw k hkm 0 _ rfl) (nof (hcw k hkm 0 _ rfl))
      have x1 := hK.cell (hcw k hkm 1 _ rfl) (nof (hcw k hkm 1 _ rfl))
      have x2 := hK.cell (hcw k hkm 2 _ rfl) (nof (hcw k hkm 2 _ rfl))
      have hwf := HM.out.2.2 ms[k] (List.getElem_mem hkm)
      obtain ⟨⟨mk, mw, mt⟩, hm⟩ : ∃ m, ms[k] = m := ⟨_, rfl⟩
      simp only [hm, Nat.add_zero] at x0 x1 x2 hwf
      rw [← hkJ] at x0 x1 x2
      have hJ2 : 0 ≤ J ∧ J < (n : Int) := by omega
      obtain ⟨ga, hga⟩ : ∃ ga, wr.heap.size = ga := ⟨_, rfl⟩
      obtain ⟨W1, hW1⟩ : ∃ W1, wr.alloc (.cells #[.int .i64 mk, .int .i64 mw, .int .i64 mt] 36) = W1 := ⟨_, rfl⟩
      have hb1 : Blk W1 ga 36 #[.int .i64 mk, .int .i64 mw, .int .i64 mt] := by rw [← hW1, ← hga]; exact Blk.new _ _ _
      have hg1 : wr.grownBy W1 none := by rw [← hW1]; exact World.grownBy_alloc _ _ none
      have hK1 : Kept (fun j => w.heap.size ≤ j) w W1 := hK.next (Kept.of_grown (F := fun _ => False) hg1 fun _ e => by cases e) (fun _ _ h => h.elim)
      have hbel : Below w.heap.size w W1 := hK1.below (Nat.le_refl _) (fun _ h => h)
      have z0 := hb1.cell 0
      have z1 := hb1.cell 1
      have z2 := hb1.cell 2
      simp only [List.getElem?_toArray, List.getElem?_cons_zero, List.getElem?_cons_succ] at z0 z1 z2
      have hgaw : hi < ga := by rw [← hga]; exact hmp.lt
      have HP := Lib.hid (putI_yes W1 (fun k => lo ≤ k ∧ k < hi) t b w.heap.size V W9 (hT.grown hg1) ⟨mk, mw, mt⟩ es er et hK1.size (by have := H5.out.2.2.2.2.2; omega) (HE.out.1.below hbel (Nat.le_refl _)) (HE.out.2.1.below hbel (Nat.le_refl _)) (HE.out.2.2.below hbel (Nat.le_refl _)))
      have HJ := Lib.hid (And.intro hJ (And.intro hlt (And.intro hWl (And.intro hSK (And.intro (hmp.kept hg1 (by simp)) (And.intro hK1 (And.intro (hbr.grown hg1 (by simp)) (And.intro hb1 (And.intro hwf hsm)))))))))
      clear hJ hlt hWl hSK hT hmp hK hbr hkJ hk hb1 hg1 hK1 hbel nof hcw hm hwf hsm
      gi_upto_region 12 with fail
      (try rw [hW1])
      (try rw [hga])
      clear x0 x1 x2 hW1 hga
      gi_wp2
      refine ⟨trivial, ?_⟩
      refine (callsIn_wide.2 HP.out).mono ?_
      rintro e w5 ⟨hor, hT5, hk5⟩
      have hg5 : W1.grownBy w5 (some b) := ⟨hk5.os, hk5.tape, hk5.output, hk5.size, fun q h1 h2 => hk5.block q h1 (fun e => h2 (by rw [show q = b from e]))⟩
      have hK5 : Kept (fun j => w.heap.size ≤ j) w w5 := HJ.out.2.2.2.2.2.1.next hk5 (fun j _ h => by have h : j = b := h; have := H5.out.2.2.2.2.2; show w.heap.size ≤ j; omega)
      have hm5 := HJ.out.2.2.2.2.1.kept hg5 (by have := H5.out.2.2.2.2.2; intro e; injection e with e; omega)
      have hr5 := HJ.out.2.2.2.2.2.2.1.kept hk5 (fun h => by have h : r0 = b := h; have := H5.out.2.2.2.2.2; omega)
      have hx5 := HJ.out.2.2.2.2.2.2.2.1.kept hk5 (fun h => by have h : ga = b := h; have := H5.out.2.2.2.2.2; omega)
      have hlen5 : (stepW W9 ⟨mk, mw, mt⟩).length = V.length := by rw [stepW_length]; exact HJ.out.2.2.1
      have HS5 := Lib.hid (And.intro hT5 (And.intro hK5 (And.intro hm5 (And.intro hr5 (And.intro hx5 hlen5)))))
      clear hT5 hk5 hg5 hK5 hm5 hr5 hx5 hlen5 z0 z1 z2
      rcases hor with ⟨ea, rfl, hy, hst⟩ | ⟨i7, hi7, hwi, hs7, rfl, hst⟩
      · have HY := Lib.hid hst
        clear hy hst
        gi_wp2
        go_roundw
        case rel =>
          exact ⟨k + 1, by have := HJ.out.2.1; omega, by rw [HJ.out.1]; rfl, stepW W9 ⟨mk, mw, mt⟩, D9, by rw [HY.out, HJ.out.2.2.2.2.2.2.2.2.2], HS5.out.2.2.2.2.2, by rw [HY.out]; exact HJ.out.2.2.2.1, HS5.out.1, HS5.out.2.2.1.mono (by omega), HS5.out.2.1, HS5.out.2.2.2.1⟩
        case measure => obtain ⟨hJ, hlt, _⟩ := HJ.out; simp [intOf]; omega
      · have hx5 := HS5.out.2.2.2.2.1
        have z0 := hx5.cell 0
        have z1 := hx5.cell 1
        simp only [List.getElem?_toArray, List.getElem?_cons_zero, List.getElem?_cons_succ] at z0 z1
        have hi9 : i7 < V.length := by have := HJ.out.2.2.1; omega
        have hmw : mw = (i7 : Int) := hwi
        have hmwt : mw.toNat = i7 := by omega
        have hmw2 : 0 ≤ mw ∧ mw < (nv : Int) := by have := HNV.out; omega
        obtain ⟨pw, hpw⟩ : ∃ pw, V[i7].p = pw := ⟨_, rfl⟩
        have xp0 := H5.out.2.2.2.2.1 i7 hi9
        have xp := HS5.out.2.1.cell xp0 (by have := World.block_lt_of_cell? w _ xp0; omega)
        rw [hpw, ← hmwt] at xp
        have hset := s_set HJ.out.2.2.1 hi7 hs7 mk mt
        have hpA : pAt V i7 = pw := by rw [pAt, List.getElem?_eq_getElem hi9]; exact hpw
        rw [hpA, HJ.out.2.2.2.2.2.2.2.2.2] at hset
        have hsum : 0 ≤ sm + pw ∧ sm + pw ≤ 7696581394432 := by rw [← hset]; exact ⟨wB_nonneg H5.out.2.2.2.1 _ _ (Nat.le_refl _), wB_le H5.out.2.2.2.1 _⟩
        have HY := Lib.hid (And.intro hst (And.intro hset (And.intro HJ.out.2.2.2.2.2.2.2.2.1 hi7)))
        have hkm : k < maxLen := by have := HJ.out.2.1; unfold maxLen; omega
        clear hx5 hi9 hst hs7 hwi hmw hmwt hpw xp0 hset hpA
        have hfin : ∀ w6, w6.ownsMap Tryd.prog 3 (plainElem (H := Unit) Tryd.prog 4) hi (k + 1) (D9.put (.int .i64 mk) (.lit (.bool true))) → w5.grownBy w6 (some hi) →
            (SetK (D9.put (.int .i64 mk) (.lit (.bool true))) (stepW W9 ⟨mk, mw, mt⟩) ∧ TalI w6 (fun k => lo ≤ k ∧ k < hi) t b V (stepW W9 ⟨mk, mw, mt⟩) ∧ Kept (fun j => w.heap.size ≤ j) w w6 ∧ Blk w6 r0 3 #[.int .i64 asked]) := fun w6 _ h2 => by
          have hk6 : Kept (fun j => j = hi) w5 w6 := Kept.of_grown (F := fun j => j = hi) h2 (fun j e => (Option.some.inj e).symm)
          have ht := HS5.out.2.2.1.isMap
          refine ⟨?_, HS5.out.1.kept hk6 (fun q h h3 => by have h : q = hi := h; have h3 : lo ≤ q ∧ q < hi := h3; omega), HS5.out.2.1.next hk6 (fun q _ h => by have h : q = hi := h; have := H5.out.2.2.2.2.2; show w.heap.size ≤ q; omega), HS5.out.2.2.2.1.kept hk6 (fun h => by have h : r0 = hi := h; have := H5.out.2.2.2.2.2; omega)⟩
          rw [HY.out.1]
          exact setK_put ht HJ.out.2.2.2.1 HY.out.2.2.2 mk mt _
        have HF := Lib.hid hfin
        clear hfin
        gi_wp2_with (gi_at_mapUpdate; refine wpListIn_mapUpdate_own _ rfl _ _ _ 57 rfl 3 4 law52 Tryd.underlying57 (plainElem (H := Unit) Tryd.prog 4) hi k _ rfl HS5.out.2.2.1 hkm _ _ (.int .i64 mk) rfl rfl (keyOf_int_mk Tryd.underlying3 HY.out.2.2.1) _ [] (plainElem_bool Tryd.underlying4 true) ?_; intro w6 hown6 hgrow6)
        have H6 := Lib.hid (And.intro hown6 (HF.out w6 hown6 hgrow6))
        clear hown6 hgrow6 HF z0 z1 xp
        go_roundw
        case rel =>
          exact ⟨k + 1, by have := HJ.out.2.1; omega, by rw [HJ.out.1]; rfl, stepW W9 ⟨mk, mw, mt⟩, _, by rw [HY.out.1, HY.out.2.1], HS5.out.2.2.2.2.2, H6.out.2.1, H6.out.2.2.1, H6.out.1, H6.out.2.2.2.1, H6.out.2.2.2.2⟩
        case measure => obtain ⟨hJ, hlt, _⟩ := HJ.out; simp [intOf]; omega
    · have e3 : decide (J < (n : Int)) = false := by simp; omega
      obtain rfl : k = n := by omega
      rename World => wq
      have HX := Lib.hid (And.intro hWl (And.intro hSK (And.intro hT (And.intro hmp (And.intro hK (And.intro hbr hsm))))))
      have HJ3 := Lib.hid hJ
      clear hWl hSK hT hmp hK hbr hsm hk hlt hJ
      gi_wp2_with (gi_at_range; refine wpListIn_range_own _ rfl _ 57 rfl 3 4 law52 Tryd.underlying57 (plainElem (H := Unit) Tryd.prog 4) hi k _ rfl HX.out.2.2.2.1 ?_; intro wg hrg hgg hsg)
      obtain ⟨ri, hri⟩ : ∃ ri, wq.heap.size = ri := ⟨_, rfl⟩
      rw [hri] at hrg hsg
      try rw [hri]
      go_frame
      have HRI := Lib.hid (And.intro hri (And.intro hrg hgg))
      clear hri hrg hgg hsg
      gi_loopw [15] (fun v15 wx => ∃ (left : Lit → Bool) (cnt : Nat), v15 = .int .i64 (wB V (gB W9 left) V.length) ∧ wx.ranges Tryd.prog 3 (plainElem (H := Unit) Tryd.prog 4) hi ri k D9 left cnt ∧ Kept (fun _ => False) wq wx) (fun _ wx => wx.rangeLeft hi ri)
      case atStart =>
        exact ⟨_, _, by rw [g_start HX.out.1 HX.out.2.1], HRI.out.2.1, Kept.of_grown (F := fun _ => False) HRI.out.2.2 fun _ e => by cases e⟩
      case round =>
        obtain ⟨left, cnt, hv15, hrg, hkx⟩ := hrel
        subst hv15
        obtain ⟨gs, hgs⟩ : ∃ gs, wB V (gB W9 left) V.length = gs := ⟨_, rfl⟩
        have hgb : 0 ≤ gs ∧ gs ≤ 7696581394432 := by rw [← hgs]; exact ⟨wB_nonneg H5.out.2.2.2.1 _ _ (Nat.le_refl _), wB_le H5.out.2.2.2.1 _⟩
        rw [hgs]
        gi_wp2_with (first
          | (gi_at_next; refine wpListIn_next_ranges _ rfl _ rfl 3 law52 (plainElem (H := Unit) Tryd.prog 4) (Value.int .i64) (fun v : Value => v) (fun key kl hk => by obtain ⟨x, rfl, _⟩ := Maps.keyOf_int_inv Tryd.underlying3 hk; exact ⟨x, rfl⟩) (fun v _ _ => ⟨v, rfl⟩) hi ri k _ _ _ rfl hrg ?_ ?_)
          | gi_in)
        · intro hc0 hl0
          have hgm : gs = sm := by rw [← hgs, g_end hl0]; exact HX.out.2.2.2.2.2.2
          subst hgm
          have hT := HX.out.2.2.1.kept hkx (fun _ h => h.elim)
          have hK := HX.out.2.2.2.2.1.next hkx (fun _ _ h => h.elim)
          have hbr := HX.out.2.2.2.2.2.1.kept hkx (fun h => h)
          obtain ⟨p1, hp1⟩ : ∃ p1, wr.heap.size = p1 := ⟨_, rfl⟩
          obtain ⟨Z0, hZ0⟩ : ∃ Z0, wr.alloc (.cells #[.int .i64 0] 3) = Z0 := ⟨_, rfl⟩
          have b1 : Blk Z0 p1 3 #[.int .i64 0] := by rw [← hZ0, ← hp1]; exact Blk.new wr _ _
          have b2 : Blk (Z0.setCell ⟨p1, 0, none⟩ (.int .i64 0)) p1 3 #[.int .i64 0] := by simpa using b1.set 0 (.int .i64 0)
          have hrp : r0 < p1 := by rw [← hp1]; exact hbr.lt
          have hkz : Kept (fun _ => False) wr (Z0.setCell ⟨p1, 0, none⟩ (.int .i64 0)) := by
            rw [← hZ0]
            exact ((Kept.refl _ wr).alloc _).set (p := ⟨p1, 0, none⟩) (.inr (by rw [← hp1]; exact Nat.le_refl _)) _
          have b5 := hbr.kept hkz (fun h => h)
          have hhp : hi < p1 := by rw [← hp1]; exact Nat.lt_of_lt_of_le HX.out.2.2.2.1.lt hkx.size
          have y1 := b1.cell 0
          have f1 := b1.frozen 0
          have y5 := b5.cell 0
          have f5 := b5.frozen 0
          simp only [List.getElem?_toArray, List.getElem?_cons_zero] at y1 y5
          have HQ := Lib.hid (And.intro hT (And.intro hK (And.intro hkz (And.intro b2 b5))))
          clear hc0 hl0 hrg hkx hgs hT hK hbr b1 b2 hkz b5
          gi_upto_region 24 with ((try rw [hp1]); (try rw [hZ0]); fail)
          (try rw [hp1])
          (try rw [hZ0])
          obtain ⟨sv, hsv⟩ : ∃ sv, wrap64 ((IntKind.u64.wrap asked).tmod 8) = sv := ⟨_, rfl⟩
          have hsb := some_bound asked
          rw [hsv] at hsb ⊢
          obtain ⟨U0, hU0⟩ : ∃ U0, (Z0.setCell ⟨p1, 0, none⟩ (.int .i64 0)).setCell ⟨r0, 0, none⟩ (.int .i64 sv) = U0 := ⟨_, rfl⟩
          obtain ⟨U, hU⟩ : ∃ U, U0.alloc (.cells #[.pointer (some ⟨t, 0, none⟩)] 25) = U := ⟨_, rfl⟩
          rw [hU0]
          have hzz : Z0.heap.size = p1 + 1 := by rw [← hZ0, ← hp1]; simp
          have zU0 : U0.heap.size = p1 + 1 := by rw [← hU0]; simp [hzz]
          have zU : U.heap.size = p1 + 2 := by rw [← hU]; simp [zU0]
          have k0 : Kept (fun j => j = r0) (Z0.setCell ⟨p1, 0, none⟩ (.int .i64 0)) U0 := by
            rw [← hU0]
            exact (Kept.refl (fun j => j = r0) _).set (p := ⟨r0, 0, none⟩) (.inl rfl) _
          have k1 : Kept (fun _ => False) U0 U := by
            rw [← hU]
            exact (Kept.refl _ U0).alloc _
          have bn : Blk U p1 3 #[.int .i64 0] := (HQ.out.2.2.2.1.kept k0 (fun h => by have h : p1 = r0 := h; omega)).kept k1 (fun h => h)
          have br : Blk U r0 3 #[.int .i64 sv] := by
            have h := HQ.out.2.2.2.2.set 0 (.int .i64 sv)
            rw [hU0] at h
            have h : Blk U0 r0 3 #[.int .i64 sv] := by simpa using h
            exact h.kept k1 (fun h => h)
          have ba : Blk U (p1 + 1) 25 #[.pointer (some ⟨t, 0, none⟩)] := by
            have h := Blk.new U0 25 #[.pointer (some ⟨t, 0, none⟩)]
            rw [hU, zU0] at h
            exact h
          have kU : Kept (fun j => j = r0) wr U := (HQ.out.2.2.1.mono (G := fun j => j = r0) (fun _ _ h => h.elim)).next (k0.next k1 (fun _ _ h => h.elim)) (fun _ _ h => h)
          have hTU := HQ.out.1.kept kU (fun q h h3 => by have h : q = r0 := h; have h3 : lo ≤ q ∧ q < hi := h3; have := H5.out.2.2.2.2.2; omega)
          have hKU := HQ.out.2.1.next kU (fun q _ h => by have h : q = r0 := h; have := RES.out; show w.heap.size ≤ q; omega)
          have hbT : b < p1 := by rw [← hp1]; exact Blk.lt HQ.out.1.2.2.2.2.2.2.1
          have htT : t < p1 := by rw [← hp1]; exact World.block_lt_of_cell? wr _ HQ.out.1.words
          have hsp : w.heap.size ≤ p1 := by rw [← hp1]; exact HQ.out.2.1.size
          have HU := Lib.hid (And.intro hTU (And.intro hKU (And.intro zU (And.intro hbT (And.intro htT (And.intro hrp (And.intro hsp (And.intro hhp HX.out.1))))))))
          have HBA := Lib.hid (And.intro bn (And.intro br ba))
          clear hhp hzz k0 k1 bn br ba kU hTU hKU hbT htT hsp y1 f1 y5 f5 hsv hZ0 hp1 hU0 zU HQ
          gi_wp2
          refine ⟨trivial, ?_⟩
          refine (all_in _ _ _ _ rfl).mono ?_
          rintro e w7 ⟨rfl, rfl⟩
          gi_wp2
          (try rw [hU])
          (try rw [zU0])
          clear hU zU0
          have hst : ShI p1 sv U [] U := ⟨Kept.refl _ _, HBA.out.1, hsb.1⟩
          have hzU := HU.out.2.2.1
          have hWn : W9.length ≤ 1000 := by have := HU.out.2.2.2.2.2.2.2.2; omega
          obtain ⟨tl, htl⟩ : ∃ tl, (toldL W9).length = tl := ⟨_, rfl⟩
          have HTL := Lib.hid (And.intro htl hsb)
          clear htl
          refine wpIn_mono (Q := fun e a' w' => (e = .normal ∨ e = .exit 4) ∧ ∃ (Dd m : Nat), a' = { tmps := #[.slice (some ⟨bv, ov, none⟩) nv c, .slice Aw k cw, .int .i64 asked, undef, undef, .pointer (some ⟨r0, 0, none⟩), .bool false, .pointer (some ⟨t, 0, none⟩), .nilIface, .int .i64 gs, .map (some hi), undef, u12, u13, u14, .int .i64 gs, u16, .pointer (some ⟨p1, 0, none⟩), .bool true, .bool false, .slice (some ⟨bv, ov, none⟩) nv c, .int .i64 (nv : Int), .bool false, .bool false, .slice Aw k cw, .int .i64 (k : Int), .bool false, .bool false, .tuple #[.pointer (some ⟨t, 0, none⟩), .nilIface], .slice (some ⟨bv, ov, none⟩) nv c, .tuple #[.pointer (some ⟨t, 0, none⟩), .nilIface], .pointer (some ⟨t, 0, none⟩), .nilIface, .nilIface, .bool false, .map (some hi), .slice Aw k cw, .int .i64 (k : Int), .int .i64 J, .bool false, u40, u41, u42, u43, u44, u45, u46, u47, u48, u49, u50, u51, u52, u53, u54, u55, u56, u57, u58, u59, u60, u61, u62, u63, u64, u65, u66, .map (some hi), .pointer (some ⟨ri, 0, none⟩), .tuple #[.bool false], .bool false, u71, u72, u73, u74, u75, u76, u77, .int .i64 asked, .int .u64 (IntKind.u64.wrap asked), .int .u64 ((IntKind.u64.wrap asked).tmod 8), .int .i64 sv, .pointer (some ⟨t, 0, none⟩), .func (.func 36) #[] #[.pointer (some ⟨p1 + 1, 0, none⟩)], undef, undef, undef, undef, undef, undef, undef, undef, undef, undef, undef, undef, undef, undef, undef, undef, undef, undef], defers := [{ target := .collected Dd, args := #[] }] } ∧ U.heap.size ≤ Dd ∧ w'.heap[Dd]? = some (.deferred (some [])) ∧ Kept (fun j => j = p1) U w' ∧ Blk w' p1 3 #[.int .i64 (m : Int)] ∧ (m : Int) = min sv (tl : Int)) ?reg ?tail
          case tail =>
            rintro e a' X ⟨he, Dd, m, rfl, hD, hK9, hKX, hbn, hm⟩
            refine inBlock_out he ?_
            clear he hst hzU
            have hbr9 := HBA.out.2.1.kept hKX (fun h => by have h : r0 = p1 := h; have := HU.out.2.2.2.2.2.1; omega)
            have hT9 := HU.out.1.kept hKX (fun q h h3 => by have h : q = p1 := h; have h3 : lo ≤ q ∧ q < hi := h3; have := HU.out.2.2.2.2.2.2.2.1; omega)
            have HZ := Lib.hid (And.intro hD (And.intro hK9 (And.intro hKX (And.intro hT9 (And.intro hbn hbr9)))))
            have hm2 : decide ((m : Int) = min sv (tl : Int)) = true := by simp [hm]
            have HM2 := Lib.hid hm
            clear hbr9 hT9 hD hK9 hKX hbn hm
            gi_upto_region 27 with fail
            rename_i K8 hK8
            refine wpIn_mono (Q := fun e a' w' => e = .normal ∧ K8 a' w') ?reg7 (by rintro e a' w' ⟨rfl, h⟩; exact h)
            case reg7 =>
              have g0 := grown_drew (World.grownBy.refl X none)
              obtain ⟨V2, hV2⟩ : ∃ V2, X.drew = V2 := ⟨_, rfl⟩
              rw [hV2] at g0
              have HG0 := Lib.hid (And.intro g0 (And.intro (HZ.out.2.2.2.2.1.grown g0 (by simp)) (And.intro (HZ.out.2.2.2.2.2.grown g0 (by simp)) (HZ.out.2.2.2.1.grown g0))))
              have hs : ∀ Y, Blk Y p1 3 #[.int .i64 (m : Int)] → Blk Y r0 3 #[.int .i64 sv] → (Y.cell? ⟨p1, 0, none⟩ = some (.int .i64 (m : Int)) ∧ Y.cell? ⟨r0, 0, none⟩ = some (.int .i64 sv)) := fun Y h1 h2 => ⟨h1.cell 0, h2.cell 0⟩
              have HS := Lib.hid hs
              clear hs g0
              refine wpIn_region_held_wide (S := fun Y => Y.cell? ⟨p1, 0, none⟩ = some (.int .i64 (m : Int)) ∧ Y.cell? ⟨r0, 0, none⟩ = some (.int .i64 sv)) (by kernel_rfl) (by kernel_rfl) (by rintro ⟨_, _, h, _⟩; cases h) (by rw [hV2]; exact HS.out V2 HG0.out.2.1 HG0.out.2.2.1) (fun hHeld => ?_)
              rw [hV2] at hHeld ⊢
              refine wpAnyH_take (i := 0) (oi := _) (v := ?vz0) rfl (by kernel_rfl) (by kernel_rfl) (by kernel_rfl) (fun _ _ _ h => by cases h.1) (Or.inl ⟨by rfl, ?hyz0⟩) (by assumption) ?restz0
              case hyz0 => (intro V hSw; (try dsimp only at hSw); go_simp) <;> with_reducible rfl
              try simp only [Act.put, List.getElem_toArray, List.getElem_cons_succ, List.getElem_cons_zero, List.setIfInBounds_toArray, List.set_cons_zero, List.set_cons_succ]
              refine wpAnyH_take (i := 1) (oi := _) (v := ?vz1) rfl (by kernel_rfl) (by kernel_rfl) (by kernel_rfl) (fun _ _ _ h => by cases h.1) (Or.inl ⟨by rfl, ?hyz1⟩) (by assumption) ?restz1
              case hyz1 => (intro V hSw; (try dsimp only at hSw); go_simp) <;> with_reducible rfl
              try simp only [Act.put, List.getElem_toArray, List.getElem_cons_succ, List.getElem_cons_zero, List.setIfInBounds_toArray, List.set_cons_zero, List.set_cons_succ]
              refine wpAnyH_take (i := 2) (oi := _) (v := ?vz2) rfl (by kernel_rfl) (by kernel_rfl) (by kernel_rfl) (fun _ _ _ h => by cases h.1) (Or.inl ⟨by rfl, ?hyz2⟩) (by assumption) ?restz2
              case hyz2 => (intro V hSw; (try dsimp only at hSw); go_simp) <;> with_reducible rfl
              try simp only [Act.put, List.getElem_toArray, List.getElem_cons_succ, List.getElem_cons_zero, List.setIfInBounds_toArray, List.set_cons_zero, List.set_cons_succ]
              refine wpAnyH_take (i := 3) (oi := _) (v := ?vz3) rfl (by kernel_rfl) (by kernel_rfl) (by kernel_rfl) (fun _ _ _ h => by cases h.1) (Or.inl ⟨by rfl, ?hyz3⟩) (by assumption) ?restz3
              case hyz3 => (intro V hSw; (try dsimp only at hSw); go_simp) <;> with_reducible rfl
              try simp only [Act.put, List.getElem_toArray, List.getElem_cons_succ, List.getElem_cons_zero, List.setIfInBounds_toArray, List.set_cons_zero, List.set_cons_succ]
              refine wpAnyH_take (i := 4) (oi := _) (v := ?vz4) rfl (by kernel_rfl) (by kernel_rfl) (by kernel_rfl) (fun _ _ _ h => by cases h.1) (Or.inl ⟨by rfl, ?hyz4⟩) (by assumption) ?restz4
              case hyz4 => (intro V hSw; (try dsimp only at hSw); go_simp) <;> with_reducible rfl
              try simp only [Act.put, List.getElem_toArray, List.getElem_cons_succ, List.getElem_cons_zero, List.setIfInBounds_toArray, List.set_cons_zero, List.set_cons_succ]
              refine wpAnyH_take (i := 5) (oi := _) (v := ?vz5) rfl (by kernel_rfl) (by kernel_rfl) (by kernel_rfl) (fun _ _ _ h => by cases h.1) (Or.inl ⟨by rfl, ?hyz5⟩) (by assumption) ?restz5
              case hyz5 => (intro V hSw; (try dsimp only at hSw); go_simp) <;> with_reducible rfl
              try simp only [Act.put, List.getElem_toArray, List.getElem_cons_succ, List.getElem_cons_zero, List.setIfInBounds_toArray, List.set_cons_zero, List.set_cons_succ]
              refine wpAnyH_take (i := 6) (oi := _) (v := ?vz6) rfl (by kernel_rfl) (by kernel_rfl) (by kernel_rfl) (fun _ _ _ h => by cases h.1) (Or.inl ⟨by rfl, ?hyz6⟩) (by assumption) ?restz6
              case hyz6 => (intro V hSw; (try dsimp only at hSw); go_simp) <;> with_reducible rfl
              try simp only [Act.put, List.getElem_toArray, List.getElem_cons_succ, List.getElem_cons_zero, List.setIfInBounds_toArray, List.set_cons_zero, List.set_cons_succ]
              refine wpAnyH_ready (rs := [7]) (by kernel_rfl) (by simp) ?_
              refine (AllReadyH.cons (o := _) rfl (fun K9 hK => ?_) AllReadyH.nil)
              go_simp
              refine (lenI_is V2 t b V.length W9 HU.out.2.2.2.2.2.2.2.2 (by omega) HG0.out.2.2.2.words HG0.out.2.2.2.2.2.2.2.2.2.1).mono ?_
              rintro e w3 ⟨rfl, k3⟩
              rw [HTL.out.1]
              have H3 := Lib.hid (And.intro k3 (And.intro (HG0.out.2.1.grown k3 (by simp)) (HG0.out.2.2.1.grown k3 (by simp))))
              clear k3
              go_wp2_with fail
              refine hK.out _ _ (HS.out w3 H3.out.2.1 H3.out.2.2) (fun hHeld => ?_)
              clear hK K9
              try simp only [Act.put, List.getElem_toArray, List.getElem_cons_succ, List.getElem_cons_zero, List.setIfInBounds_toArray, List.set_cons_zero, List.set_cons_succ]
              refine wpAnyH_take (i := 8) (oi := _) (v := ?vz8) rfl (by kernel_rfl) (by kernel_rfl) (by kernel_rfl) (fun _ _ _ h => by cases h.1) (Or.inl ⟨by rfl, ?hyz8⟩) (by assumption) ?restz8
              case hyz8 => (intro V hSw; (try dsimp only at hSw); go_simp) <;> with_reducible rfl
              try simp only [Act.put, List.getElem_toArray, List.getElem_cons_succ, List.getElem_cons_zero, List.setIfInBounds_toArray, List.set_cons_zero, List.set_cons_succ]
              refine wpAnyH_take (i := 9) (oi := _) (v := ?vz9) rfl (by kernel_rfl) (by kernel_rfl) (by kernel_rfl) (fun _ _ _ h => by cases h.1) (Or.inl ⟨by rfl, ?hyz9⟩) (by assumption) ?restz9
              case hyz9 => (intro V hSw; (try dsimp only at hSw); go_simp) <;> with_reducible rfl
              try simp only [Act.put, List.getElem_toArray, List.getElem_cons_succ, List.getElem_cons_zero, List.setIfInBounds_toArray, List.set_cons_zero, List.set_cons_succ]
              refine wpAnyH_take (i := 10) (oi := _) (v := ?vz10) rfl (by kernel_rfl) (by kernel_rfl) (by kernel_rfl) (fun _ _ _ h => by cases h.1) (Or.inl ⟨by rfl, ?hyz10⟩) (by assumption) ?restz10
              case hyz10 => (intro V hSw; (try dsimp only at hSw); go_simp) <;> with_reducible rfl
              try simp only [Act.put, List.getElem_toArray, List.getElem_cons_succ, List.getElem_cons_zero, List.setIfInBounds_toArray, List.set_cons_zero, List.set_cons_succ]
              refine wpAnyH_take (i := 11) (oi := _) (v := ?vz11) rfl (by kernel_rfl) (by kernel_rfl) (by kernel_rfl) (fun _ _ _ h => by cases h.1) (Or.inl ⟨by rfl, ?hyz11⟩) (by assumption) ?restz11
              case hyz11 => (intro V hSw; (try dsimp only at hSw); go_simp) <;> with_reducible rfl
              try simp only [Act.put, List.getElem_toArray, List.getElem_cons_succ, List.getElem_cons_zero, List.setIfInBounds_toArray, List.set_cons_zero, List.set_cons_succ]
              refine wpAnyH_done (by kernel_rfl) ?_ _
              refine ⟨rfl, hK8 _ _ ?_⟩
              have hmv : ((m : Int) == if (tl : Int) < sv then (tl : Int) else sv) = true := by
                have := HM2.out
                rw [beq_iff_eq]
                split <;> omega
              obtain ⟨mq, hmq⟩ : ∃ mq, (if (tl : Int) < sv then (tl : Int) else sv) = mq := ⟨_, rfl⟩
              rw [hmq] at hmv ⊢
              rw [hmv]
              have kV : Kept (fun j => w.heap.size ≤ j) w w3 := ((HU.out.2.1.next HZ.out.2.2.1 (fun q _ h => by have h : q = p1 := h; have := HU.out.2.2.2.2.2.2.1; show w.heap.size ≤ q; omega)).next (Kept.of_grown (F := fun _ => False) HG0.out.1 fun _ e => by cases e) (fun _ _ h => h.elim)).next (Kept.of_grown (F := fun _ => False) H3.out.1 fun _ e => by cases e) (fun _ _ h => h.elim)
              have gV : X.grownBy w3 none := grown_trans HG0.out.1 H3.out.1
              have hDX : w3.heap[Dd]? = some (.deferred (some [])) := (gV.block Dd (Array.getElem?_eq_some_iff.1 HZ.out.2.1).1 (by simp)).trans HZ.out.2.1
              have hDp : w.heap.size ≤ Dd := by have := HZ.out.1; have := HU.out.2.1.size; omega
              have HF := Lib.hid (And.intro kV (And.intro hDX hDp))
              clear kV gV hDX hDp hmv hm2 hmq
              gi_wp2
              refine ⟨by simp, .inl ⟨_, _, rfl, run_takeDeferred HF.out.2.1, ?_⟩⟩
              have hp := Kept.of_grown (F := fun j => j = Dd) (grownBy_putObj' w3 Dd (.deferred none)) (fun j e => (Option.some.inj e).symm)
              exact ⟨_, results_tmp rfl _ _ _, rfl, (HF.out.1.next hp (fun j _ h => by have h : j = Dd := h; have := HF.out.2.2; show w.heap.size ≤ j; omega)).grownNone (fun j h1 (h2 : w.heap.size ≤ j) => by omega)⟩
          case reg =>
            refine wpIn_rangeFunc_toldO rfl (by omega) (gf := 36) (lb := #[.pointer (some ⟨p1 + 1, 0, none⟩)]) rfl trivial (enters_of Tryd.func36 (by kernel_rfl) rfl)
              (all_seq 8 (by omega) (p1 + 1) t b V.length W9 HU.out.2.2.2.2.2.2.2.2 (by omega) U (by have := HU.out.2.2.2.2.1; omega) HU.out.1.words HU.out.1.2.2.2.2.2.2.1 HBA.out.2.2) (fun h1 h2 => KpA.trans h1 h2)
              (fun x X l o o' hl ho hc _ => KpA.put ho hc) PhiA.mono (Below.refl _ _) (fun _ => rfl)
              (fun pre X => ShI p1 sv U pre X)
              (ShX p1 sv (tl : Int) U)
              (shI_own (Nat.le_refl _))
              (fun _ => shX_own (Nat.le_refl _))
              hst
              (fun pre x a' X => a' = { tmps := #[.slice (some ⟨bv, ov, none⟩) nv c, .slice Aw k cw, .int .i64 asked, undef, undef, .pointer (some ⟨r0, 0, none⟩), .bool false, .pointer (some ⟨t, 0, none⟩), .nilIface, .int .i64 gs, .map (some hi), undef, u12, u13, u14, .int .i64 gs, u16, .pointer (some ⟨p1, 0, none⟩), .bool true, .bool false, .slice (some ⟨bv, ov, none⟩) nv c, .int .i64 (nv : Int), .bool false, .bool false, .slice Aw k cw, .int .i64 (k : Int), .bool false, .bool false, .tuple #[.pointer (some ⟨t, 0, none⟩), .nilIface], .slice (some ⟨bv, ov, none⟩) nv c, .tuple #[.pointer (some ⟨t, 0, none⟩), .nilIface], .pointer (some ⟨t, 0, none⟩), .nilIface, .nilIface, .bool false, .map (some hi), .slice Aw k cw, .int .i64 (k : Int), .int .i64 J, .bool false, u40, u41, u42, u43, u44, u45, u46, u47, u48, u49, u50, u51, u52, u53, u54, u55, u56, u57, u58, u59, u60, u61, u62, u63, u64, u65, u66, .map (some hi), .pointer (some ⟨ri, 0, none⟩), .tuple #[.bool false], .bool false, u71, u72, u73, u74, u75, u76, u77, .int .i64 asked, .int .u64 (IntKind.u64.wrap asked), .int .u64 ((IntKind.u64.wrap asked).tmod 8), .int .i64 sv, .pointer (some ⟨t, 0, none⟩), .func (.func 36) #[] #[.pointer (some ⟨p1 + 1, 0, none⟩)], .int .i64 (x.1 : Int), .int .i64 x.2.thing, undef, undef, undef, undef, undef, undef, undef, undef, undef, undef, undef, undef, undef, undef, undef, undef], defers := [] } ∧ PhiPI W9 pre x)
              (fun pre x a' => ownFrom_pure _) ?assign ?body ?done ?stop
            case assign =>
              rintro l pre x X K hI hphi hK9
              have HK := Lib.hid (hK9 _ X ((keeps_grown (World.grownBy.refl X none)).from _) (KpA.refl _) hI ⟨rfl, hphi⟩)
              clear hK9 hI hphi
              simp only [thE]
              gi_wp2
              exact HK.out
            case stop =>
              rintro Dd c' pre X hD _ ⟨rfl, hKX, hb9, hle⟩ hK9
              have HK := Lib.hid (And.intro hKX (And.intro hb9 (And.intro hle (And.intro hD hK9))))
              clear hKX hb9 hle hD hK9 hzU
              gi_wp2
              exact ⟨HK.out.2.2.2.1, HK.out.2.2.2.2, HK.out.1, sv.toNat, by rw [Int.toNat_of_nonneg HTL.out.2.1]; exact HK.out.2.1, by have := HK.out.2.2.1; have := HTL.out.2.1; omega⟩
            case body =>
              rintro l pre x a' X hl0 hl1 hI ⟨rfl, hphi⟩
              have hlt := phi_lt hphi
              rw [HTL.out.1] at hlt
              obtain ⟨N, hN⟩ : ∃ N, pre.length = N := ⟨_, rfl⟩
              have hle := hI.2.2
              have hb1 := hI.2.1
              rw [hN] at hlt hle hb1
              have hsv8 := HTL.out.2
              have hbr9 := HBA.out.2.1.kept hI.1 (fun h => by have h : r0 = p1 := h; have := HU.out.2.2.2.2.2.1; omega)
              have c17 := hb1.cell 0
              have f17 := hb1.frozen 0
              have c5 := hbr9.cell 0
              simp only [List.getElem?_toArray, List.getElem?_cons_zero] at c17 c5
              by_cases hns : (N : Int) = sv
              · have HF := Lib.hid (show ShX p1 sv (tl : Int) U (.exit 4) (pre ++ [x]) X from ⟨rfl, hI.1, by rw [← hns]; exact hb1, by omega⟩)
                have d1 : ((N : Int) == sv) = true := by simp [hns]
                clear hns hI hb1 hbr9 hphi hlt hN
                gi_wp2
                exact ⟨(keeps_grown (World.grownBy.refl X none)).from _, HF.out⟩
              · have d1 : ((N : Int) == sv) = false := by simp [hns]
                have hKe : Kept (fun j => j = p1) X (X.setCell ⟨p1, 0, none⟩ (.int .i64 ((N : Int) + 1))) := (Kept.refl (fun j => j = p1) X).set (p := ⟨p1, 0, none⟩) (.inl rfl) _
                have hfin : ShI p1 sv U (pre ++ [x]) (X.setCell ⟨p1, 0, none⟩ (.int .i64 ((N : Int) + 1))) := by
                  refine ⟨hI.1.next hKe (fun _ _ h => h), ?_, ?_⟩
                  · rw [List.length_append, hN, List.length_singleton]
                    simpa using hb1.set 0 (.int .i64 ((N : Int) + 1))
                  · rw [List.length_append, hN, List.length_singleton]; omega
                have hkp : KpA U.heap.size b x X (X.setCell ⟨p1, 0, none⟩ (.int .i64 ((N : Int) + 1))) :=
                  KpA.of_kept hKe (fun j h => by have h : j = p1 := h; have := HU.out.2.2.1; have := HU.out.2.2.2.1; omega)
                have HF := Lib.hid (And.intro hfin hkp)
                clear hns hI hb1 hbr9 hphi hN hKe hfin hkp
                gi_wp2
                exact ⟨(KeepsOthers.setCell _ _ _).from _, HF.out.2, HF.out.1⟩
            case done =>
              rintro Dd xs X hD hS hI hK9
              subst hS
              have hb9 := hI.2.1
              have hle := hI.2.2
              rw [HTL.out.1] at hb9 hle
              exact ⟨.inl rfl, Dd, tl, rfl, hD, hK9, hI.1, hb9, by omega⟩
        · intro x c0 kl ya yb w2 cnt2 hkey hlk hv hat hrg2 hlt2 hg2 hs2 hen
          obtain ⟨x', ex, rfl, hwx⟩ := Maps.keyOf_int_inv Tryd.underlying3 hkey
          cases ex
          have hk2 : Kept (fun _ => False) wq w2 := hkx.next (Kept.of_grown (F := fun j => j = ri) hg2 (fun j e => (Option.some.inj e).symm)) (fun j h1 h2 => by have h2 : j = ri := h2; have := HRI.out.1; omega)
          have hT2 := HX.out.2.2.1.kept hk2 (fun _ h => h.elim)
          have hK2 := HX.out.2.2.2.2.1.next hk2 (fun _ _ h => h.elim)
          have hbel := hK2.below (Nat.le_refl _) (fun _ h => h)
          have HPW := Lib.hid (powerI_is w2 _ t b w.heap.size V W9 hT2 x es er et hK2.size (HE.out.1.below hbel (Nat.le_refl _)) (HE.out.2.1.below hbel (Nat.le_refl _)) (HE.out.2.2.below hbel (Nat.le_refl _)))
          obtain ⟨pw, hpw⟩ : ∃ pw, sumVal V (whoL W9 x) = pw := ⟨_, rfl⟩
          rw [hpw] at HPW
          rw [power_eq H5.out.2.2.2.1 HX.out.1] at hpw
          have hst := g_step HX.out.1 hlk
          rw [hgs, hpw] at hst
          have hgb2 : 0 ≤ gs + pw ∧ gs + pw ≤ 7696581394432 := by rw [← hst]; exact ⟨wB_nonneg H5.out.2.2.2.1 _ _ (Nat.le_refl _), wB_le H5.out.2.2.2.1 _⟩
          have HY := Lib.hid (And.intro hst (And.intro hrg2 (And.intro hk2 (And.intro hlt2 hrg))))
          clear hpw hst hrg2 hk2 hT2 hK2 hbel hkey hlk hv hat hg2 hs2 hlt2 hrg hkx hgs
          gi_wp2
          refine ⟨trivial, ?_⟩
          refine (callsIn_wide.2 HPW.out).mono ?_
          rintro e w3 ⟨rfl, k3⟩
          have H3 := Lib.hid k3
          clear k3
          gi_wp2
          go_roundw
          case rel =>
            exact ⟨_, cnt2, by rw [HY.out.1], HY.out.2.1.kept H3.out (by simp) (by simp), HY.out.2.2.1.next (Kept.of_grown (F := fun _ => False) H3.out fun _ e => by cases e) (fun _ _ h => h)⟩
          case measure =>
            rw [(HY.out.2.1.kept H3.out (by simp) (by simp)).left_eq, HY.out.2.2.2.2.left_eq]; exact HY.out.2.2.2.1
end Go.Proofs.YthcilpfcdblmkaaDoor
/-
  Tally: a row of words as an argument, whose keys fit.
-/

namespace Go.Proofs.YthcilpfcdblmkaaDoor
open Go.ChangeShapes Go.WideShapes Go.ChangeAt Go.RowKit

section
variable {H : Type} {enc : TypeId × Value → H} {w : World} {base : Nat} {spare : Nat → Bool} {held : Bool} {fuel : Nat} {cs : List Value} {x : DataW H × List MemPlace}
set_option maxRecDepth 100000 in
theorem open_WmK {cs : List Value} (h : DataW.trod enc Tryd.prog w base spare held fuel 36 cs = some x) : ∃ z : Wm, cs = z.cells ∧ (Lit.int .i64 z.key).wf = true := by
  obtain ⟨xs, n, _, hx, hlen, hxl, hf⟩ := DataW.trod_struct Tryd.underlying36 h
  rw [cellsWm] at hlen
  match cs, hlen with
  | [v0, v1, v2], _ =>
    match xs, hxl with
    | [y0, y1, y2], _ =>
      have f0 : DataW.trod enc Tryd.prog w base spare held n 3 ((([v0, v1, v2] : List Value).drop 0).take (Tryd.prog.cellsOf 3)) = some y0 := hf 0 _ rfl
      rw [cellsInt] at f0
      obtain ⟨z0, e0, _, wf0⟩ := DataW.trod_int Tryd.underlying3 (show DataW.trod enc Tryd.prog w base spare held n 3 [v0] = some y0 from f0)
      injection e0 with e0 _
      have f1 : DataW.trod enc Tryd.prog w base spare held n 3 ((([v0, v1, v2] : List Value).drop 1).take (Tryd.prog.cellsOf 3)) = some y1 := hf 1 _ rfl
      rw [cellsInt] at f1
      obtain ⟨z1, e1, _, _⟩ := DataW.trod_int Tryd.underlying3 (show DataW.trod enc Tryd.prog w base spare held n 3 [v1] = some y1 from f1)
      injection e1 with e1 _
      have f2 : DataW.trod enc Tryd.prog w base spare held n 3 ((([v0, v1, v2] : List Value).drop 2).take (Tryd.prog.cellsOf 3)) = some y2 := hf 2 _ rfl
      rw [cellsInt] at f2
      obtain ⟨z2, e2, _, _⟩ := DataW.trod_int Tryd.underlying3 (show DataW.trod enc Tryd.prog w base spare held n 3 [v2] = some y2 from f2)
      injection e2 with e2 _
      exact ⟨⟨z0, z1, z2⟩, by rw [Wm.cells, e0, e1, e2], wf0⟩
theorem open_wmsK (h : DataW.trod enc Tryd.prog w base spare held fuel 23 cs = some x) :
    ∃ A n c, ∃ zs : List Wm, cs = [.slice A n c] ∧ zs.length = n ∧ n ≤ c ∧ WmsAt w A zs ∧ ∀ z ∈ zs, (Lit.int .i64 z.key).wf = true := by
  obtain ⟨A, n, c, zs, hcs, hn, hc, hat⟩ := open_elems Tryd.underlying23 cellsWm (fun (z : Wm) es => es = z.cells ∧ (Lit.int .i64 z.key).wf = true) ⟨0, 0, 0⟩ (fun h => open_WmK h) h
  refine ⟨A, n, c, zs, hcs, hn, hc, fun hne => ?_, fun z hz => ?_⟩
  case refine_2 =>
    obtain ⟨ad, eA, hat2⟩ := hat (List.ne_nil_of_mem hz)
    obtain ⟨k, hk, rfl⟩ := List.getElem_of_mem hz
    obtain ⟨es, ⟨_, h2⟩, _⟩ := hat2 k hk
    exact h2
  obtain ⟨ad, eA, hat2⟩ := hat hne
  obtain ⟨b, off, rfl⟩ : ∃ b off, ad = ⟨b, off, none⟩ := by
    obtain ⟨es, ⟨rfl, _⟩, _, hcell⟩ := hat2 0 (List.length_pos_iff.2 hne)
    have := hcell 0 (by omega)
    rw [Nat.zero_mul, Nat.zero_add] at this
    exact addr_form this rfl
  refine ⟨b, off, eA, fun k hk j v hj => ?_⟩
  obtain ⟨es, ⟨rfl, _⟩, h3, hcell⟩ := hat2 k hk
  have hj4 : j < 3 := by rw [← h3]; exact (List.getElem?_eq_some_iff.1 hj).1
  have := hcell j hj4
  rw [Go.WideShapes.add_plain, ← Nat.add_assoc, hj] at this
  exact this
set_option maxRecDepth 100000 in
theorem arg_wmsK {v : Value} {d : DataW H} {p : List MemPlace} {b0 : Nat} (hv : Value.okWide Tryd.prog w .any b0 23 v) (h : DataW.Trod enc Tryd.prog w base spare held 23 v d p) :
    ∃ A n c, ∃ zs : List Wm, v = .slice A n c ∧ zs.length = n ∧ n ≤ c ∧ WmsAt w A zs ∧ ∀ z ∈ zs, (Lit.int .i64 z.key).wf = true := by
  obtain ⟨a0, len, cap, rfl⟩ := okWide_slice Tryd.underlying23 hv
  obtain ⟨fuel, hf⟩ := h
  obtain ⟨A, n, c, xs, hcs, hn, hc, hb⟩ := open_wmsK hf
  have e : Value.slice a0 len cap = .slice A n c := (List.cons.inj (show [Value.slice a0 len cap] = [Value.slice A n c] from hcs)).1
  exact ⟨A, n, c, xs, e, hn, hc, hb⟩
end
end Go.Proofs.YthcilpfcdblmkaaDoor
