/-
 Ground.quorum: claims of a quorum.
-/
import Derived.Test.YtigafnbofmiknaaGreatDoorW20v
import Derived.Test.YtigafnbofmiknaaGreatDoorW20s
import Derived.Test.YtigafnbofmiknaaGreatDoorW20l
namespace Go.Proofs.YtigafnbofmiknaaGreatDoor
set_option maxRecDepth 100000
set_option maxHeartbeats 10000000
open Go.RowKit Go.Shelf

attribute [local go_sem] Oper.semAt_some

theorem ownFrom_ex {α β : Type} {B : Nat} {I : α -> β -> World -> Prop} (h : ∀ a, OwnFrom B (I a)) : OwnFrom B (fun s W => ∃ a, I a s W) := fun s W W' row hs hg hr => by
 obtain ⟨a, ha⟩ := hs
 exact ⟨a, h a s W W' row ha hg hr⟩
def stepOk {α : Type} (V : List Vd) (dg : α -> List Int) (sg : α -> Sg) (L : List α) (k : Nat) : Prop := ∀ x, L[k]? = some x -> holdsB V (sg x).who (dg x) (sg x).lf (sg x).n1 (sg x).n2 (sg x).cs (sg x).ps = true /\ ∀ y, 0 < k -> L[k - 1]? = some y -> (sg y).who < (sg x).who
def goodTo {α : Type} (V : List Vd) (dg : α -> List Int) (sg : α -> Sg) (L : List α) (n : Nat) : Prop := ∀ k, k < n -> stepOk V dg sg L k
def whoL {α : Type} (sg : α -> Sg) (L : List α) : List Int := L.map fun x => (sg x).who
open Classical in
noncomputable def ug {α : Type} (V : List Vd) (dg : α -> List Int) (sg : α -> Sg) (L : List α) : Bool := decide (goodTo V dg sg L L.length) && u1 V (whoL sg L)
section
variable {B : Nat} {E : Nat -> Addr} {e : Int} {A : Option Addr} {c : Nat} {V : List Vd} {G : Array Value}
def clV {α : Type} (dg : α -> List Int) (sg : α -> Sg) (x : α) : Array Value := (sg x).claim (arrV .u8 (dg x))
theorem clV_size {α : Type} {dg : α -> List Int} {sg : α -> Sg} (hd : ∀ x, isDig (dg x)) (x : α) : (clV dg sg x).size = 20 := clC_size (by rw [zf, (hd x).1])
theorem clV_one {α : Type} {dg : α -> List Int} {sg : α -> Sg} (x : α) : ((clV dg sg x).all fun v => v.oneCell') = true := by
 have h := zu .u8 (dg x)
 rw [Array.all_eq_true_iff_forall_mem] at h ⊢
 intro y hy
 simp only [clV, Sg.claim, clC, sigV, Array.mem_append] at hy
 rcases hy with hy | hy | hy
 · simp at hy; subst hy; rfl
 · exact h y hy
 · simp at hy; rcases hy with rfl | rfl | rfl <;> rfl
def clZ : Array Value := clC 0 z16v 0 (.slice none 0 0) (.slice none 0 0)
theorem clz_run (w : World) : Sem.run Tryz.prog (zeroValue 169) w = .ok (.agg clZ) w := zbr w (by kernel_rfl)
def QI {α : Type} (W0 : World) (q : Nat) (gv : Array Value) (V : List Vd) (dg : α -> List Int) (sg : α -> Sg) (L : List α) (v : Value) (pre : List α) (W : World) : Prop :=
 Blk W q 26 gv /\ (Blk W (q + 1) 40 #[.nilIface] /\ (Blk W (q + 1 + 1) 102 #[v] /\ (W.ownsRow (q + 3) 3 1 v pre.length ((whoL sg pre).map (Value.int .i64)) /\ ((pre = L.take pre.length /\ goodTo V dg sg L pre.length) /\ W0.grownBy W (some (q + 1 + 1))))))
theorem ownFrom_ownn {β : Type} {B base size : Nat} {e : TypeId} {v : Value} (n : β -> Nat) (f : β -> List Value) : OwnFrom B (fun s W => W.ownsRow base e size v (n s) (f s)) := fun s W W' row hs hg hr =>
 ownFrom_own (fun _ : Unit => f s) () W W' row hs hg hr
theorem qi_own {α : Type} {W0 : World} {q : Nat} {gv : Array Value} {V : List Vd} {dg : α -> List Int} {sg : α -> Sg} {L : List α} : OwnFrom W0.heap.size (fun pre W => ∃ v, QI W0 q gv V dg sg L v pre W) :=
 ownFrom_ex fun v => OwnFrom.and (vm (fun _ => gv)) (OwnFrom.and (vm (fun _ => #[.nilIface])) (OwnFrom.and (vm (fun _ => #[v])) (OwnFrom.and (ownFrom_ownn (fun pre : List α => pre.length) (fun pre => (whoL sg pre).map (Value.int .i64))) (OwnFrom.and (zbp (fun pre : List α => pre = L.take pre.length /\ goodTo V dg sg L pre.length)) (ownFrom_grownr (Nat.le_refl _))))))
def QX {α : Type} (w : World) (q : Nat) (E : Nat -> Addr) (V : List Vd) (dg : α -> List Int) (sg : α -> Sg) (L : List α) (cd : Code) (_ : List α) (W : World) : Prop :=
 (cd = .ret /\ ¬ goodTo V dg sg L L.length) /\ (Blk W (q + 1) 40 #[errV (E 11)] /\ w.grownBy W none)
theorem qx_own {α : Type} {w : World} {B q : Nat} {E : Nat -> Addr} {V : List Vd} {dg : α -> List Int} {sg : α -> Sg} {L : List α} (cd : Code) (h : w.heap.size <= B) : OwnFrom B (QX w q E V dg sg L cd) :=
 OwnFrom.and (zbp (fun _ : List α => cd = .ret /\ ¬ goodTo V dg sg L L.length)) (OwnFrom.and (vm (fun _ => #[errV (E 11)])) (ownFrom_grownr h))
theorem own_row1 {w : World} {base size n : Nat} {e : TypeId} {v : Value} {xs : List Value} (h : w.ownsRow base e size v (n + 1) xs) : ∃ g cap, v = .slice (some ⟨g, 0, none⟩) (n + 1) cap := by
 rcases h.2 with ⟨h1, h2⟩ | ⟨g, cap, cur, rfl, _⟩
 · simp at h2
 · exact ⟨g, cap, rfl⟩
theorem KpV.to {n₀ : Nat} {A B : World} {row : Option Nat} (h : A.grownBy B row) (hn : n₀ <= A.heap.size) (hr : ∀ g, row = some g -> n₀ <= g /\ ∀ cs fr, A.heap[g]? ≠ some (Obj.cells cs 24 fr)) : KpV n₀ A B :=
 ⟨ua h hn (fun g e => (hr g e).1), fun k cs fr hk => (h.block k (Array.getElem?_eq_some_iff.1 hk).1 (fun e => (hr k e.symm).2 cs fr hk)).trans hk⟩
theorem own_type {w : World} {base size n : Nat} {e d : TypeId} {v : Value} {xs : List Value} (h : w.ownsRow base e size v n xs) {b : Nat} (hb : v.ownBlock = some b) (hne : e ≠ d) : ∀ cs fr, w.heap[b]? ≠ some (Obj.cells cs d fr) := fun cs fr hc => by
 rcases h.2 with ⟨rfl, _⟩ | ⟨g, cap, cur, rfl, _, hgb, _⟩
 · simp [Value.ownBlock] at hb
 · obtain rfl : g = b := by simpa [Value.ownBlock] using hb
   rw [hgb] at hc
   cases hc
   exact hne rfl
theorem pre_snoc {α : Type} {L pre : List α} {x : α} (h : pre = L.take pre.length) (hx : L[pre.length]? = some x) : pre ++ [x] = L.take (pre.length + 1) := by
 obtain ⟨hk, he⟩ := List.getElem?_eq_some_iff.1 hx
 rw [<- List.take_append_getElem hk, he, <- h]
theorem zeh {w : World} {r : Nat} {x : Value} (h : w.cell? ⟨r, 0, none⟩ = some x) : (loadVar 40 ⟨r, 0, none⟩).run Tryz.prog w = .ok x w := by
 have hd := Tryz.underlying40
 simp [loadVar, isAgg, go_sem, hd, h]
theorem good_who {α : Type} {V : List Vd} {dg : α -> List Int} {sg : α -> Sg} {L : List α} : ∀ (n : Nat), goodTo V dg sg L n -> ∀ x, 0 < n -> L[n - 1]? = some x -> (n : Int) - 1 <= (sg x).who
 | 0, _, _, h0, _ => absurd h0 (by omega)
 | 1, h, x, _, hx => by
  have h1 := (h 0 (by omega) x hx).1
  unfold holdsB at h1
  simp only [Bool.and_eq_true, decide_eq_true_eq] at h1
  have := h1.1.1
  omega
 | n + 2, h, x, _, hx => by
  have hx' : L[n + 1]? = some x := hx
  have hlt : n < L.length := by have := (List.getElem?_eq_some_iff.1 hx').1; omega
  have ih := good_who (n + 1) (fun k hk => h k (by omega)) L[n] (by omega) (by simp)
  have h2 := (h (n + 1) (by omega) x hx').2 L[n] (by omega) (by simp)
  omega
theorem good_few {α : Type} {V : List Vd} {dg : α -> List Int} {sg : α -> Sg} {L : List α} {n : Nat} (h : goodTo V dg sg L n) (hn : n <= L.length) : n <= V.length := by
 rcases n with _ | n
 · exact Nat.zero_le _
 · have hx : L[n + 1 - 1]? = some L[n] := by simp
   have h1 := good_who (n + 1) h L[n] (by omega) hx
   have h2 := (h n (by omega) L[n] (by simp)).1
   unfold holdsB at h2
   simp only [Bool.and_eq_true, decide_eq_true_eq] at h2
   have := h2.1.2
   omega
theorem zdc {α : Type} {V : List Vd} {dg : α -> List Int} {sg : α -> Sg} {L : List α} {n : Nat} (hL : L.length <= 100 \/ V.length <= 100) (h : goodTo V dg sg L n) (hn : n <= L.length) : n <= 100 := by
 rcases hL with hL | hL
 · omega
 · have := good_few h hn; omega
theorem zcj {α : Type} {V : List Vd} {dg : α -> List Int} {sg : α -> Sg} {L : List α} {k : Nat} (h : goodTo V dg sg L k) (hk : stepOk V dg sg L k) : goodTo V dg sg L (k + 1) := fun j hj => by
 by_cases e : j = k
 · subst e; exact hk
 · exact h j (by omega)
theorem pquorum_is {α : Type} (dg : α -> List Int) (sg : α -> Sg) (hdg : ∀ x, isDig (dg x)) (w : World) (hR : Rounds w) (he : ErrEnv w B E) (hB4 : 4 <= w.heap.size) (hBw : B <= w.heap.size) (hV : VdsAt w A V) (ok : keysOk V) (hl : V.length < 1000) (hG : G.size = 16) (gv : Array Value) (hgv : gv = grC e (.slice A V.length c) G)
    (gf : Nat) (lb : Array Value) (heg : ∀ args w, (callFunc gf args).run Tryz.prog w = .ok (.enter gf args) w) (L : List α) (hL : L.length <= 100 \/ V.length <= 100) (hok : SgsOk w (L.map sg))
    (hseq : ∀ z, w.grownBy z none -> zfa Fence.wide 5 Tryz.prog gf lb (fun x => #[.agg (clV dg sg x)]) (fun _ => KpV w.heap.size) (fun pre _ x _ => L[pre.length]? = some x) (fun ys => ys = L) (fun _ => True) z) :
    Calls Tryz.prog 55 #[.agg gv, .func (.func gf) #[] lb] w fun e' w' => e' = .returned (evOf E (holdN (ug V dg sg L))) /\ w.grownBy w' none := by
 obtain ⟨i0, hi, hz0, hz1, hz2⟩ := info_parts zb6
 have HI0 := hQ_ (aQ hi (aQ hz0 (aQ hz1 hz2)))
 obtain ⟨q, hq⟩ : ∃ q, w.heap.size = q := ⟨_, rfl⟩
 obtain ⟨W0, hW0⟩ : ∃ W0, ((w.alloc (.cells gv 26)).alloc (.cells #[.nilIface] 40)).alloc (.cells #[.slice none 0 0] 102) = W0 := ⟨_, rfl⟩
 have g0 : w.grownBy W0 none := by rw [<- hW0]; exact za (za (gQ) (gQ)) (gQ)
 have hgs : gv.size = 18 := by rw [hgv]; exact zci hG
 have hsz : W0.heap.size = q + 3 := by rw [<- hW0, <- hq]; simp
 have b0 : Blk W0 q 26 gv := by rw [<- hW0, <- hq]; exact ((Blk.new _ _ _).alloc _).alloc _
 have b1 : Blk W0 (q + 1) 40 #[.nilIface] := by
  have h := (Blk.new (w.alloc (.cells gv 26)) 40 #[.nilIface]).alloc (.cells #[.slice none 0 0] 102)
  rw [World.size_alloc, hq, hW0] at h
  exact h
 have b2 : Blk W0 (q + 1 + 1) 102 #[.slice none 0 0] := by
  have h := Blk.new ((w.alloc (.cells gv 26)).alloc (.cells #[.nilIface] 40)) 102 #[.slice none 0 0]
  rw [World.size_alloc, World.size_alloc, hq, hW0] at h
  exact h
 have HS := hQ_ (hseq W0 g0)
 have HX := hQ_ (aQ g0 (aQ hsz (aQ hgs (aQ hq (aQ hL hok)))))
 have HE := hQ_ (aQ hR (aQ he (aQ hB4 (aQ hBw (aQ hV (aQ ok (aQ hl (aQ hG (aQ hgv hdg)))))))))
 have HW := hQ_ (aQ hW0 (aQ b0 (aQ b1 b2)))
 have hcz := clz_run
 clear hR he hB4 hBw hV ok hl hG hgv hL hok hseq g0 hsz hgs b0 b1 b2 hdg hi hz0 hz1 hz2
 refine (callsIn_wide (n := 6)).1 ?_
 refine callsIn_of_wp_marks Tryz.func55 rfl trivial ?_ rfl
 simp only [Tryz.ntmps55, List.size_toArray, List.length_cons, List.length_nil, Nat.reduceAdd, Nat.reduceSub, Array.replicate_succ, Array.replicate_zero, List.push_toArray, List.append_toArray, List.nil_append, List.cons_append]
 gi_wp2
 have hsz := HX.out.2.1
 have hle : w.heap.size <= W0.heap.size := HX.out.1.size
 refine wpIn_rangeFunc_told rfl (by omega) (gf := gf) (lb := lb) rfl trivial heg HS.out (fun h1 h2 => KpV.trans h1 h2)
  (fun x W l o o' hl ho hc hw => ⟨ua (grownBy_putObj' W l o') (by have := (Array.getElem?_eq_some_iff.1 ho).1; omega) (fun g e => by have := Option.some.inj e; omega), fun j cs fr hj => ((grownBy_putObj' W l o').block j (Array.getElem?_eq_some_iff.1 hj).1 (fun e => by
   have := Option.some.inj e
   subst this
   rw [ho] at hj
   cases hj
   cases hc)).trans hj⟩) (fun _ _ _ _ _ _ h => h) (Below.refl _ _) (fun _ => rfl)
  (fun pre W => ∃ v, QI W0 q gv V dg sg L v pre W)
  (QX w q E V dg sg L)
  qi_own (fun cd => qx_own cd hle)
  ⟨_, HW.out.2.1, HW.out.2.2.1, HW.out.2.2.2, World.ownsRow_nil _ _ _ _, ⟨by simp, fun j hj => by simp at hj⟩, World.grownBy.refl _ _⟩
  (fun pre x a' W => ∃ g, W0.heap.size <= g /\ (a' = { tmps := #[.agg gv, .func (.func gf) #[] lb, .pointer (some ⟨q, 0, none⟩), undef, .pointer (some ⟨q + 1, 0, none⟩), .pointer (some ⟨q + 1 + 1, 0, none⟩), .pointer (some ⟨g, 0, none⟩), undef, .func (.func gf) #[] lb, .agg (clV dg sg x), undef, undef, undef, undef, undef, undef, undef, undef, undef, undef, undef, undef, undef, undef, undef, undef, undef, undef, undef, undef, undef, undef, undef, undef, undef, undef, undef, undef, undef, undef, undef, undef], defers := [] } /\ L[pre.length]? = some x) /\ Blk W g 169 (clV dg sg x))
  (fun pre x a' => ownFrom_axK20 _ _ _) ?assign ?body ?done ?stop
 case assign =>
  rintro l pre x W K hI hx hK
  have hc20 : (clV dg sg x).size = 20 := clV_size HE.out.2.2.2.2.2.2.2.2.2 x
  have hg1 : W.grownBy ((W.alloc (.cells clZ 169)).setRow W.heap.size (clV dg sg x)) none := zc (World.grownBy_alloc W _ none) (.inl (Nat.le_refl _)) _
  obtain ⟨v, hB0, hB1, hB2, hown, hpg, hG0⟩ := hI
  have hWs : W0.heap.size <= W.heap.size := hG0.size
  obtain ⟨cv, hcv⟩ : ∃ cv, cv = clV dg sg x := ⟨_, rfl⟩
  rw [<- hcv] at hK hc20 hg1 ⊢
  have hc1 : (cv.all fun y => y.oneCell') = true := by rw [hcv]; exact clV_one x
  have HK := hQ_ (show K _ ((W.alloc (.cells clZ 169)).setRow W.heap.size cv) from hK _ _ ((u0 hg1).from _) (KpV.grown hg1 (by omega))
   ⟨v, hB0.grown hg1 (by simp), hB1.grown hg1 (by simp), hB2.grown hg1 (by simp), vt hown hg1, hpg, za hG0 (vq hg1 _)⟩ ⟨W.heap.size, hWs, ⟨rfl, hx⟩, (Blk.new W 169 clZ).row cv⟩)
  have HC := hQ_ (aQ hc20 hc1)
  clear hB0 hB1 hB2 hown hpg hG0 hg1 hK hc20 hc1 hcv hx
  gi_wp2_with (refine yx rfl 169 _ _ rfl W.heap.size cv rfl rfl 169 _ (heap_alloc_new W _) (by rw [HC.out.1]; exact ze5) (by rw [HC.out.1]; rfl) HC.out.2 ?_)
  exact HK.out
 case body =>
  rintro l pre x a' W hl0 hl1 ⟨v, hB0, hB1, hB2, hown, ⟨hpre, hgood⟩, hG0⟩ ⟨g, hg, ⟨rfl, hx⟩, hBc⟩
  obtain ⟨hR, he, hB4, hBw, hV, ok, hl, hG, hgv, hdg⟩ := HE.out
  have hGw : w.grownBy W none := z8 HX.out.1 hG0 (by have := HX.out.2.2.2.1; omega)
  have hxm : x ∈ L := List.mem_of_getElem? hx
  have hxk : pre.length < L.length := (List.getElem?_eq_some_iff.1 hx).1
  have hok := HX.out.2.2.2.2.2 (sg x) (List.mem_map_of_mem hxm)
  obtain ⟨r, hr⟩ : ∃ r, r = holdsB V (sg x).who (dg x) (sg x).lf (sg x).n1 (sg x).n2 (sg x).cs (sg x).ps := ⟨_, rfl⟩
  obtain ⟨cv, hcv⟩ : ∃ cv, cv = clV dg sg x := ⟨_, rfl⟩
  have HH := hQ_ (fun V' (hV' : W.grownBy V' none) => holds_is V' (hR.grown (za hGw hV') (by simp)) (he.grown (za hGw hV') (fun _ e => by cases e)) (Nat.le_trans hB4 (za hGw hV').size) (hV.grown (za hGw hV')) ok hG gv hgv (sg x).who (sg x).lf (dg x) (hdg x) (arrV .u8 (dg x)) rfl _ _ _ _ _ _ _ _ (hok.1.grown (za hGw hV')) (hok.2.grown (za hGw hV')) cv hcv)
  rw [<- hr] at HH
  have hc20 : cv.size = 20 := by rw [hcv]; exact clV_size hdg x
  have c0 : W.cell? ⟨g, 0, none⟩ = some (.int .i64 (sg x).who) := (cl_cells (by rw [zf, (hdg x).1]) hBc).1
  have hve : ∀ V', W.grownBy V' none -> V'.cell? ⟨11, 0, none⟩ = some (errV (E 11)) := fun V' h => ((he.grown (za hGw h) (fun _ e => by cases e)).var 11 (by omega)).1
  obtain ⟨who, hwho⟩ : ∃ who, who = (sg x).who := ⟨_, rfl⟩
  rw [<- hwho] at c0
  rw [<- hcv] at hBc ⊢
  have HVE := hQ_ hve
  have HC := hQ_ (aQ hc20 hcv)
  have HB := hQ_ (aQ hB0 (aQ hB1 (aQ hB2 (aQ hown (aQ hG0 (aQ hBc hGw))))))
  have HN := hQ_ (aQ hxk (aQ hx (aQ hr (aQ hwho (aQ hpre (aQ hgood hg))))))
  clear hR he hB4 hBw hV ok hl hG hgv hdg hB1 hG0 hGw hxm hxk hok hr hcv hc20 hve hwho hBc hB0 hpre hl0 hl1
  have cb := hB2.cell 0
  simp only [List.getElem?_toArray, List.getElem?_cons_zero] at cb
  obtain ⟨k, hk⟩ : ∃ k, pre.length = k := ⟨_, rfl⟩
  rw [hk] at hown hgood
  rcases k with _ | j
  · obtain ⟨A2, cap, rfl⟩ := zch _ hown
    have hstep : True := trivial
    have HJ := hQ_ (show stepOk V dg sg L pre.length ↔ r = true from ⟨fun h => by rw [HN.out.2.2.1]; exact (h x HN.out.2.1).1, fun h y hy => by
     rw [HN.out.2.1] at hy
     cases hy
     exact ⟨by rw [<- HN.out.2.2.1]; exact h, fun z hz => by rw [hk] at hz; omega⟩⟩)
    clear hown hgood hx hk hstep
    gi_wp2
    refine yt (S := fun V => V.cell? ⟨q + 1 + 1, 0, none⟩ = some (.slice A2 0 cap)) (by kernel_rfl) (by kernel_rfl) (by rintro ⟨_, _, h⟩; exact h) ((zh (World.grownBy.refl W none)).cell cb (by simp)) (fun _ => ?_)
    refine wpAnyH_take (i := 0) (oi := _) (v := ?v0a) rfl (by kernel_rfl) (by kernel_rfl) (by kernel_rfl) (fun _ _ _ h => h) (Or.inl ⟨by rfl, ?hy0a⟩) (by assumption) ?rest0a
    case hy0a => (intro V hSw; (try dsimp only at hSw); go_simp) <;> with_reducible rfl
    simp only [Act.put, List.getElem_toArray, List.getElem_cons_zero, List.setIfInBounds_toArray, List.set_cons_zero, List.set_cons_succ]
    refine wpAnyH_take (i := 1) (oi := _) (v := ?v1a) rfl (by kernel_rfl) (by kernel_rfl) (by kernel_rfl) (fun _ _ _ h => h) (Or.inl ⟨by rfl, ?hy1a⟩) (by assumption) ?rest1a
    case hy1a => (intro V hSw; (try dsimp only at hSw); go_simp) <;> with_reducible rfl
    simp only [Act.put, List.getElem_toArray, List.getElem_cons_succ, List.getElem_cons_zero, List.setIfInBounds_toArray, List.set_cons_zero, List.set_cons_succ]
    refine wpAnyH_take (i := 2) (oi := _) (v := ?v2a) rfl (by kernel_rfl) (by kernel_rfl) (by kernel_rfl) (fun _ _ _ h => h) (Or.inl ⟨by rfl, ?hy2a⟩) (by assumption) ?rest2a
    case hy2a => (intro V hSw; (try dsimp only at hSw); go_simp) <;> with_reducible rfl
    simp only [Act.put, List.getElem_toArray, List.getElem_cons_succ, List.getElem_cons_zero, List.setIfInBounds_toArray, List.set_cons_zero, List.set_cons_succ]
    refine wpAnyH_take (i := 3) (oi := _) (v := ?v3a) rfl (by kernel_rfl) (by kernel_rfl) (by kernel_rfl) (fun _ _ _ h => h) (Or.inl ⟨by rfl, ?hy3a⟩) (by assumption) ?rest3a
    case hy3a => (intro V hSw; (try dsimp only at hSw); go_simp) <;> with_reducible rfl
    simp only [Act.put, List.getElem_toArray, List.getElem_cons_succ, List.getElem_cons_zero, List.setIfInBounds_toArray, List.set_cons_zero, List.set_cons_succ]
    refine wpAnyH_take (i := 4) (oi := _) (v := undef) rfl (by kernel_rfl) (by kernel_rfl) (by kernel_rfl) (fun _ _ _ h => h) (Or.inr ⟨by rfl, rfl⟩) (by assumption) ?rest4a
    simp only [Act.put, List.getElem_toArray, List.getElem_cons_succ, List.getElem_cons_zero, List.setIfInBounds_toArray, List.set_cons_zero, List.set_cons_succ]
    refine wpAnyH_take (i := 5) (oi := _) (v := undef) rfl (by kernel_rfl) (by kernel_rfl) (by kernel_rfl) (fun _ _ _ h => h) (Or.inr ⟨by rfl, rfl⟩) (by assumption) ?rest5a
    simp only [Act.put, List.getElem_toArray, List.getElem_cons_succ, List.getElem_cons_zero, List.setIfInBounds_toArray, List.set_cons_zero, List.set_cons_succ]
    refine wpAnyH_take (i := 6) (oi := _) (v := undef) rfl (by kernel_rfl) (by kernel_rfl) (by kernel_rfl) (fun _ _ _ h => h) (Or.inr ⟨by rfl, rfl⟩) (by assumption) ?rest6a
    simp only [Act.put, List.getElem_toArray, List.getElem_cons_succ, List.getElem_cons_zero, List.setIfInBounds_toArray, List.set_cons_zero, List.set_cons_succ]
    refine wpAnyH_take (i := 7) (oi := _) (v := undef) rfl (by kernel_rfl) (by kernel_rfl) (by kernel_rfl) (fun _ _ _ h => h) (Or.inr ⟨by rfl, rfl⟩) (by assumption) ?rest7a
    simp only [Act.put, List.getElem_toArray, List.getElem_cons_succ, List.getElem_cons_zero, List.setIfInBounds_toArray, List.set_cons_zero, List.set_cons_succ]
    refine wpAnyH_take (i := 8) (oi := _) (v := undef) rfl (by kernel_rfl) (by kernel_rfl) (by kernel_rfl) (fun _ _ _ h => h) (Or.inr ⟨by rfl, rfl⟩) (by assumption) ?rest8a
    simp only [Act.put, List.getElem_toArray, List.getElem_cons_succ, List.getElem_cons_zero, List.setIfInBounds_toArray, List.set_cons_zero, List.set_cons_succ]
    refine wpAnyH_take (i := 9) (oi := _) (v := undef) rfl (by kernel_rfl) (by kernel_rfl) (by kernel_rfl) (fun _ _ _ h => h) (Or.inr ⟨by rfl, rfl⟩) (by assumption) ?rest9a
    simp only [Act.put, List.getElem_toArray, List.getElem_cons_succ, List.getElem_cons_zero, List.setIfInBounds_toArray, List.set_cons_zero, List.set_cons_succ]
    refine wpAnyH_take (i := 10) (oi := _) (v := undef) rfl (by kernel_rfl) (by kernel_rfl) (by kernel_rfl) (fun _ _ _ h => h) (Or.inr ⟨by rfl, rfl⟩) (by assumption) ?rest10a
    simp only [Act.put, List.getElem_toArray, List.getElem_cons_succ, List.getElem_cons_zero, List.setIfInBounds_toArray, List.set_cons_zero, List.set_cons_succ]
    refine wpAnyH_take (i := 11) (oi := _) (v := undef) rfl (by kernel_rfl) (by kernel_rfl) (by kernel_rfl) (fun _ _ _ h => h) (Or.inr ⟨by rfl, rfl⟩) (by assumption) ?rest11a
    simp only [Act.put, List.getElem_toArray, List.getElem_cons_succ, List.getElem_cons_zero, List.setIfInBounds_toArray, List.set_cons_zero, List.set_cons_succ]
    refine wpAnyH_take (i := 12) (oi := _) (v := undef) rfl (by kernel_rfl) (by kernel_rfl) (by kernel_rfl) (fun _ _ _ h => h) (Or.inr ⟨by rfl, rfl⟩) (by assumption) ?rest12a
    simp only [Act.put, List.getElem_toArray, List.getElem_cons_succ, List.getElem_cons_zero, List.setIfInBounds_toArray, List.set_cons_zero, List.set_cons_succ]
    refine wpAnyH_take (i := 13) (oi := _) (v := ?v13a) rfl (by kernel_rfl) (by kernel_rfl) (by kernel_rfl) (fun _ _ _ h => h) (Or.inl ⟨by rfl, ?hy13a⟩) (by assumption) ?rest13a
    case hy13a => (intro V hSw; (try dsimp only at hSw); go_simp) <;> with_reducible rfl
    simp only [Act.put, List.getElem_toArray, List.getElem_cons_succ, List.getElem_cons_zero, List.setIfInBounds_toArray, List.set_cons_zero, List.set_cons_succ]
    refine wpAnyH_done (by kernel_rfl) ?_ _
    clear cb
    obtain ⟨W1, hW1⟩ : ∃ W1, W1 = W.drew := ⟨_, rfl⟩
    rw [<- hW1]
    have gW1 : W.grownBy W1 none := by rw [hW1]; exact zh (World.grownBy.refl W none)
    have H1 := hQ_ (aQ (HB.out.1.grown gW1 (by simp)) (aQ (HB.out.2.2.2.2.2.1.grown gW1 (by simp)) gW1))
    have c0' := gW1.cell c0 (by simp)
    clear hW1 gW1 c0
    gi_wp2_with (first
     | (refine yo rfl 26 _ rfl q rfl 26 gv (0, 0) _ H1.out.1 Tryz.underlying26 rfl (by rw [HX.out.2.2.1]; exact info18) ?_)
     | (refine yo rfl 169 _ rfl g rfl 169 cv (0, 0) _ H1.out.2.1 Tryz.underlying169 rfl (by rw [HC.out.1]; exact ze5) ?_))
    refine ⟨trivial, ?_⟩
    refine (CallsIn.inRound l (callsIn_wide.2 (HH.out W1 H1.out.2.2))).mono ?_
    rintro e2 W2 ⟨rfl, g2⟩
    cases r
    · rw [show evOf E (holdN false) = errV (E 11) from rfl]
      have G2 := hQ_ g2
      have gW2 := za H1.out.2.2 g2
      have cr := (HB.out.2.1.grown gW2 (by simp)).cell 0
      have fr := (HB.out.2.1.grown gW2 (by simp)).frozen 0
      simp only [List.getElem?_toArray, List.getElem?_cons_zero] at cr
      have HG2 := hQ_ gW2
      clear gW2 g2
      gi_wp2
      have hg6 := grownBy_setCell' W2 (q + 1) (errV (E 11))
      refine ⟨((u0 HG2.out).trans (KeepsOthers.setCell _ _ _)).from _, ⟨rfl, ?_⟩, (HB.out.2.1.grown HG2.out (by simp)).set 0 _, z8 (za HB.out.2.2.2.2.2.2 HG2.out) hg6 (by have := HX.out.2.2.2.1; omega)⟩
      intro hgd
      have := (hgd _ (HN.out.1) x HN.out.2.1).1
      rw [<- HN.out.2.2.1] at this
      cases this
    · rw [show evOf E (holdN true) = .nilIface from rfl]
      have gW2 := za H1.out.2.2 g2
      have b2' := HB.out.2.2.1.grown gW2 (by simp)
      have cv2 := b2'.cell 0
      simp only [List.getElem?_toArray, List.getElem?_cons_zero] at cv2
      have c0'' := g2.cell c0' (by simp)
      have HG2 := hQ_ (aQ gW2 (vt HB.out.2.2.2.1 gW2))
      have HO2 := hQ_ (HG2.out.2.alloc (.cells #[.int .i64 who] 3))
      have HB2 := hQ_ (b2'.alloc (.cells #[.int .i64 who] 3))
      have HGA := hQ_ (za gW2 (World.grownBy_alloc W2 (.cells #[.int .i64 who] 3) none))
      clear gW2 g2 b2' c0'
      gi_wp2_with (first
       | (gi_at_builtin; refine wpListIn_push_one _ rfl _ _ 102 rfl (q + 3) 3 i0 _ 8 Tryz.underlying102 HI0.out.1 HI0.out.2.1 HI0.out.2.2.1 HI0.out.2.2.2 rfl _ _ _ rfl HO2.out ⟨W2.heap.size, 0, none⟩ 1 (.int .i64 who) rfl (Blk.cell (Blk.new _ _ _) 0) rfl (by have := zdc HX.out.2.2.2.2.1 HN.out.2.2.2.2.2.1 (Nat.le_of_lt HN.out.1); omega) (by omega) (by have := HG2.out.1.size; have := HB.out.2.2.2.2.1.size; simp only [World.size_alloc]; omega) ?_; intro A' c' w3 hown3 hg3 hat3; have hb3 := HB2.out.grown hg3 (fun e => by have := (HO2.out.lt _ e.symm).1; omega); have q3 := hQ_ (aQ hown3 (aQ hg3 hb3)); have cb3 := hb3.cell 0; have fb3 := hb3.frozen 0; simp only [List.getElem?_toArray, List.getElem?_cons_zero] at cb3; clear hown3 hg3 hat3 hb3))
      have hg6 := grownBy_setCell' w3 (q + 1 + 1) (Value.slice A' (pre.length + 1) c')
      have hne : ∀ b, b < q + 1 + 1 -> some b ≠ Value.ownBlock (.slice A2 0 cap) /\ some b ≠ some (q + 1 + 1) := fun b hb => ⟨fun e => by have := (HO2.out.lt _ e.symm).1; omega, fun e => by have := Option.some.inj e; omega⟩
      have hq := HX.out.2.2.2.1
      have hs0 := HB.out.2.2.2.2.1.size
      have hs1 := HX.out.2.1
      have hs2 := HGA.out.size
      have hs3 := q3.out.2.1.size
      have hpl : (pre ++ [x]).length = pre.length + 1 := by simp
      refine ⟨(((u0 HGA.out).trans (keeps_own q3.out.2.1 HO2.out)).trans (KeepsOthers.setCell _ _ _)).from _,
       ((KpV.grown HGA.out (by omega)).trans (KpV.to q3.out.2.1 (by omega) (fun b e => ⟨by have := (HO2.out.lt _ e).1; omega, own_type HO2.out e (by decide)⟩))).trans (KpV.to hg6 (by omega) (fun b e => by
        have := Option.some.inj e
        subst this
        exact ⟨by omega, fun cs fr h => by rw [q3.out.2.2] at h; cases h⟩)),
       _, ((HB.out.1.grown HGA.out (by simp)).grown q3.out.2.1 (hne _ (by omega)).1).grown hg6 (hne _ (by omega)).2, ((HB.out.2.1.grown HGA.out (by simp)).grown q3.out.2.1 (hne _ (by omega)).1).grown hg6 (hne _ (by omega)).2, q3.out.2.2.set 0 _, ?_, ⟨?_, ?_⟩, za (ul (za HB.out.2.2.2.2.1 (vq HGA.out _)) q3.out.2.1 HO2.out (by omega)) hg6⟩
      · have := q3.out.1.kept hg6 (.inr (Boxed.not_row (t := 102) q3.out.2.2 (by decide) q3.out.1).symm)
        rw [hpl, whoL, List.map_append, List.map_append]
        rw [HN.out.2.2.2.1] at this
        exact this
      · rw [hpl]; exact pre_snoc HN.out.2.2.2.2.1 HN.out.2.1
      · rw [hpl]; exact zcj HN.out.2.2.2.2.2.1 (HJ.out.2 (by first | rfl | trivial))
  · obtain ⟨gb, cap, rfl⟩ := own_row1 hown
    have hj : j < L.length := by have := HN.out.1; omega
    obtain ⟨wy, hwy⟩ : ∃ wy, wy = (sg L[j]).who := ⟨_, rfl⟩
    have hyj : L[pre.length - 1]? = some L[j] := by rw [hk, Nat.add_sub_cancel]; exact List.getElem?_eq_getElem hj
    have hcy : W.cell? ⟨gb, j, none⟩ = some (.int .i64 wy) := own_cell hown (by
     rw [HN.out.2.2.2.2.1, hk, whoL, List.map_map, List.getElem?_map, List.getElem?_take_of_lt (by omega), List.getElem?_eq_getElem hj, hwy]
     rfl)
    have HJ := hQ_ (show (wy < who -> (stepOk V dg sg L pre.length ↔ r = true)) /\ (¬ wy < who -> ¬ goodTo V dg sg L L.length) from ⟨fun hlt => ⟨fun h => by rw [HN.out.2.2.1]; exact (h x HN.out.2.1).1, fun h y hy => by
     rw [HN.out.2.1] at hy
     cases hy
     exact ⟨by rw [<- HN.out.2.2.1]; exact h, fun z _ hz => by
      rw [hyj] at hz
      cases hz
      rw [<- hwy, <- HN.out.2.2.2.1]; exact hlt⟩⟩, fun hlt hgd => hlt (by
      have := (hgd _ HN.out.1 x HN.out.2.1).2 _ (by omega) hyj
      rwa [<- hwy, <- HN.out.2.2.2.1] at this)⟩)
    have hj63 : (j : Int) < 100 := by have := zdc HX.out.2.2.2.2.1 HN.out.2.2.2.2.2.1 (Nat.le_of_lt HN.out.1); omega
    have hjn : (0 : Int) <= (j : Int) := by omega
    have hwr : IntKind.i64.wrap (j : Int) = (j : Int) := by rw [IntKind.wrap_i64]; omega
    have hlj : (j : Int) < (j : Int) + 1 := by omega
    clear hown hgood hx hk hj hwy hyj
    by_cases hlt : wy < who
    · have d1 : decide (who <= wy) = false := by simp; omega
      have HJ' := hQ_ (HJ.out.1 hlt)
      clear hlt
      gi_wp2
      refine yt (S := fun V => V.cell? ⟨q + 1 + 1, 0, none⟩ = some (.slice (some ⟨gb, 0, none⟩) (j + 1) cap) /\ V.cell? ⟨g, 0, none⟩ = some (.int .i64 who) /\ V.cell? ⟨gb, j, none⟩ = some (.int .i64 wy)) (by kernel_rfl) (by kernel_rfl) (by rintro ⟨_, _, h⟩; exact h) ⟨(zh (World.grownBy.refl W none)).cell cb (by simp), (zh (World.grownBy.refl W none)).cell c0 (by simp), (zh (World.grownBy.refl W none)).cell hcy (by simp)⟩ (fun _ => ?_)
      refine wpAnyH_take (i := 0) (oi := _) (v := ?v0b) rfl (by kernel_rfl) (by kernel_rfl) (by kernel_rfl) (fun _ _ _ h => h) (Or.inl ⟨by rfl, ?hy0b⟩) (by assumption) ?rest0b
      case hy0b => (intro V hSw; (try dsimp only at hSw); go_simp) <;> with_reducible rfl
      simp only [Act.put, List.getElem_toArray, List.getElem_cons_zero, List.setIfInBounds_toArray, List.set_cons_zero, List.set_cons_succ]
      refine wpAnyH_take (i := 1) (oi := _) (v := ?v1b) rfl (by kernel_rfl) (by kernel_rfl) (by kernel_rfl) (fun _ _ _ h => h) (Or.inl ⟨by rfl, ?hy1b⟩) (by assumption) ?rest1b
      case hy1b => (intro V hSw; (try dsimp only at hSw); go_simp) <;> with_reducible rfl
      simp only [Act.put, List.getElem_toArray, List.getElem_cons_succ, List.getElem_cons_zero, List.setIfInBounds_toArray, List.set_cons_zero, List.set_cons_succ]
      refine wpAnyH_take (i := 2) (oi := _) (v := ?v2b) rfl (by kernel_rfl) (by kernel_rfl) (by kernel_rfl) (fun _ _ _ h => h) (Or.inl ⟨by rfl, ?hy2b⟩) (by assumption) ?rest2b
      case hy2b => (intro V hSw; (try dsimp only at hSw); go_simp) <;> with_reducible rfl
      simp only [Act.put, List.getElem_toArray, List.getElem_cons_succ, List.getElem_cons_zero, List.setIfInBounds_toArray, List.set_cons_zero, List.set_cons_succ]
      refine wpAnyH_take (i := 3) (oi := _) (v := ?v3b) rfl (by kernel_rfl) (by kernel_rfl) (by kernel_rfl) (fun _ _ _ h => h) (Or.inl ⟨by rfl, ?hy3b⟩) (by assumption) ?rest3b
      case hy3b => (intro V hSw; (try dsimp only at hSw); go_simp) <;> with_reducible rfl
      simp only [Act.put, List.getElem_toArray, List.getElem_cons_succ, List.getElem_cons_zero, List.setIfInBounds_toArray, List.set_cons_zero, List.set_cons_succ]
      refine wpAnyH_take (i := 4) (oi := _) (v := ?v4b) rfl (by kernel_rfl) (by kernel_rfl) (by kernel_rfl) (fun _ _ _ h => h) (Or.inl ⟨by rfl, ?hy4b⟩) (by assumption) ?rest4b
      case hy4b => (intro V hSw; (try dsimp only at hSw); go_simp) <;> with_reducible rfl
      simp only [Act.put, List.getElem_toArray, List.getElem_cons_succ, List.getElem_cons_zero, List.setIfInBounds_toArray, List.set_cons_zero, List.set_cons_succ]
      refine wpAnyH_take (i := 5) (oi := _) (v := ?v5b) rfl (by kernel_rfl) (by kernel_rfl) (by kernel_rfl) (fun _ _ _ h => h) (Or.inl ⟨by rfl, ?hy5b⟩) (by assumption) ?rest5b
      case hy5b => (intro V hSw; (try dsimp only at hSw); go_simp) <;> with_reducible rfl
      simp only [Act.put, List.getElem_toArray, List.getElem_cons_succ, List.getElem_cons_zero, List.setIfInBounds_toArray, List.set_cons_zero, List.set_cons_succ]
      refine wpAnyH_take (i := 6) (oi := _) (v := ?v6b) rfl (by kernel_rfl) (by kernel_rfl) (by kernel_rfl) (fun _ _ _ h => h) (Or.inl ⟨by rfl, ?hy6b⟩) (by assumption) ?rest6b
      case hy6b => (intro V hSw; (try dsimp only at hSw); go_simp) <;> with_reducible rfl
      simp only [Act.put, List.getElem_toArray, List.getElem_cons_succ, List.getElem_cons_zero, List.setIfInBounds_toArray, List.set_cons_zero, List.set_cons_succ]
      refine wpAnyH_take (i := 7) (oi := _) (v := ?v7b) rfl (by kernel_rfl) (by kernel_rfl) (by kernel_rfl) (fun _ _ _ h => h) (Or.inl ⟨by rfl, ?hy7b⟩) (by assumption) ?rest7b
      case hy7b => (intro V hSw; (try dsimp only at hSw); go_simp) <;> with_reducible rfl
      simp only [Act.put, List.getElem_toArray, List.getElem_cons_succ, List.getElem_cons_zero, List.setIfInBounds_toArray, List.set_cons_zero, List.set_cons_succ]
      refine wpAnyH_take (i := 8) (oi := _) (v := ?v8b) rfl (by kernel_rfl) (by kernel_rfl) (by kernel_rfl) (fun _ _ _ h => h) (Or.inl ⟨by rfl, ?hy8b⟩) (by assumption) ?rest8b
      case hy8b => (intro V hSw; (try dsimp only at hSw); go_simp) <;> with_reducible rfl
      simp only [Act.put, List.getElem_toArray, List.getElem_cons_succ, List.getElem_cons_zero, List.setIfInBounds_toArray, List.set_cons_zero, List.set_cons_succ]
      refine wpAnyH_take (i := 9) (oi := _) (v := ?v9b) rfl (by kernel_rfl) (by kernel_rfl) (by kernel_rfl) (fun _ _ _ h => h) (Or.inl ⟨by rfl, ?hy9b⟩) (by assumption) ?rest9b
      case hy9b => (intro V hSw; (try dsimp only at hSw); go_simp; (try rw [hwr])) <;> with_reducible rfl
      simp only [Act.put, List.getElem_toArray, List.getElem_cons_succ, List.getElem_cons_zero, List.setIfInBounds_toArray, List.set_cons_zero, List.set_cons_succ]
      refine wpAnyH_take (i := 10) (oi := _) (v := ?v10b) rfl (by kernel_rfl) (by kernel_rfl) (by kernel_rfl) (fun _ _ _ h => h) (Or.inl ⟨by rfl, ?hy10b⟩) (by assumption) ?rest10b
      case hy10b => (intro V hSw; (try dsimp only at hSw); go_simp) <;> with_reducible rfl
      simp only [Act.put, List.getElem_toArray, List.getElem_cons_succ, List.getElem_cons_zero, List.setIfInBounds_toArray, List.set_cons_zero, List.set_cons_succ]
      refine wpAnyH_take (i := 11) (oi := _) (v := ?v11b) rfl (by kernel_rfl) (by kernel_rfl) (by kernel_rfl) (fun _ _ _ h => h) (Or.inl ⟨by rfl, ?hy11b⟩) (by assumption) ?rest11b
      case hy11b => (intro V hSw; (try dsimp only at hSw); go_simp) <;> with_reducible rfl
      simp only [Act.put, List.getElem_toArray, List.getElem_cons_succ, List.getElem_cons_zero, List.setIfInBounds_toArray, List.set_cons_zero, List.set_cons_succ]
      refine wpAnyH_take (i := 12) (oi := _) (v := ?v12b) rfl (by kernel_rfl) (by kernel_rfl) (by kernel_rfl) (fun _ _ _ h => h) (Or.inl ⟨by rfl, ?hy12b⟩) (by assumption) ?rest12b
      case hy12b => (intro V hSw; (try dsimp only at hSw); go_simp) <;> with_reducible rfl
      simp only [Act.put, List.getElem_toArray, List.getElem_cons_succ, List.getElem_cons_zero, List.setIfInBounds_toArray, List.set_cons_zero, List.set_cons_succ]
      refine wpAnyH_take (i := 13) (oi := _) (v := ?v13b) rfl (by kernel_rfl) (by kernel_rfl) (by kernel_rfl) (fun _ _ _ h => h) (Or.inl ⟨by rfl, ?hy13b⟩) (by assumption) ?rest13b
      case hy13b => (intro V hSw; (try dsimp only at hSw); go_simp) <;> with_reducible rfl
      simp only [Act.put, List.getElem_toArray, List.getElem_cons_succ, List.getElem_cons_zero, List.setIfInBounds_toArray, List.set_cons_zero, List.set_cons_succ]
      refine wpAnyH_done (by kernel_rfl) ?_ _
      clear cb hcy
      obtain ⟨W1, hW1⟩ : ∃ W1, W1 = W.drew := ⟨_, rfl⟩
      rw [<- hW1]
      have gW1 : W.grownBy W1 none := by rw [hW1]; exact zh (World.grownBy.refl W none)
      have H1 := hQ_ (aQ (HB.out.1.grown gW1 (by simp)) (aQ (HB.out.2.2.2.2.2.1.grown gW1 (by simp)) gW1))
      have c0' := gW1.cell c0 (by simp)
      clear hW1 gW1 c0
      gi_wp2_with (first
       | (refine yo rfl 26 _ rfl q rfl 26 gv (0, 0) _ H1.out.1 Tryz.underlying26 rfl (by rw [HX.out.2.2.1]; exact info18) ?_)
       | (refine yo rfl 169 _ rfl g rfl 169 cv (0, 0) _ H1.out.2.1 Tryz.underlying169 rfl (by rw [HC.out.1]; exact ze5) ?_))
      refine ⟨trivial, ?_⟩
      refine (CallsIn.inRound l (callsIn_wide.2 (HH.out W1 H1.out.2.2))).mono ?_
      rintro e2 W2 ⟨rfl, g2⟩
      cases r
      · rw [show evOf E (holdN false) = errV (E 11) from rfl]
        have G2 := hQ_ g2
        have gW2 := za H1.out.2.2 g2
        have cr := (HB.out.2.1.grown gW2 (by simp)).cell 0
        have fr := (HB.out.2.1.grown gW2 (by simp)).frozen 0
        simp only [List.getElem?_toArray, List.getElem?_cons_zero] at cr
        have HG2 := hQ_ gW2
        clear gW2 g2
        gi_wp2
        have hg6 := grownBy_setCell' W2 (q + 1) (errV (E 11))
        refine ⟨((u0 HG2.out).trans (KeepsOthers.setCell _ _ _)).from _, ⟨rfl, ?_⟩, (HB.out.2.1.grown HG2.out (by simp)).set 0 _, z8 (za HB.out.2.2.2.2.2.2 HG2.out) hg6 (by have := HX.out.2.2.2.1; omega)⟩
        intro hgd
        have := (hgd _ (HN.out.1) x HN.out.2.1).1
        rw [<- HN.out.2.2.1] at this
        cases this
      · rw [show evOf E (holdN true) = .nilIface from rfl]
        have gW2 := za H1.out.2.2 g2
        have b2' := HB.out.2.2.1.grown gW2 (by simp)
        have cv2 := b2'.cell 0
        simp only [List.getElem?_toArray, List.getElem?_cons_zero] at cv2
        have c0'' := g2.cell c0' (by simp)
        have HG2 := hQ_ (aQ gW2 (vt HB.out.2.2.2.1 gW2))
        have HO2 := hQ_ (HG2.out.2.alloc (.cells #[.int .i64 who] 3))
        have HB2 := hQ_ (b2'.alloc (.cells #[.int .i64 who] 3))
        have HGA := hQ_ (za gW2 (World.grownBy_alloc W2 (.cells #[.int .i64 who] 3) none))
        clear gW2 g2 b2' c0'
        gi_wp2_with (first
         | (gi_at_builtin; refine wpListIn_push_one _ rfl _ _ 102 rfl (q + 3) 3 i0 _ 8 Tryz.underlying102 HI0.out.1 HI0.out.2.1 HI0.out.2.2.1 HI0.out.2.2.2 rfl _ _ _ rfl HO2.out ⟨W2.heap.size, 0, none⟩ 1 (.int .i64 who) rfl (Blk.cell (Blk.new _ _ _) 0) rfl (by have := zdc HX.out.2.2.2.2.1 HN.out.2.2.2.2.2.1 (Nat.le_of_lt HN.out.1); omega) (by omega) (by have := HG2.out.1.size; have := HB.out.2.2.2.2.1.size; simp only [World.size_alloc]; omega) ?_; intro A' c' w3 hown3 hg3 hat3; have hb3 := HB2.out.grown hg3 (fun e => by have := (HO2.out.lt _ e.symm).1; omega); have q3 := hQ_ (aQ hown3 (aQ hg3 hb3)); have cb3 := hb3.cell 0; have fb3 := hb3.frozen 0; simp only [List.getElem?_toArray, List.getElem?_cons_zero] at cb3; clear hown3 hg3 hat3 hb3))
        have hg6 := grownBy_setCell' w3 (q + 1 + 1) (Value.slice A' (pre.length + 1) c')
        have hne : ∀ b, b < q + 1 + 1 -> some b ≠ Value.ownBlock (.slice (some ⟨gb, 0, none⟩) (j + 1) cap) /\ some b ≠ some (q + 1 + 1) := fun b hb => ⟨fun e => by have := (HO2.out.lt _ e.symm).1; omega, fun e => by have := Option.some.inj e; omega⟩
        have hq := HX.out.2.2.2.1
        have hs0 := HB.out.2.2.2.2.1.size
        have hs1 := HX.out.2.1
        have hs2 := HGA.out.size
        have hs3 := q3.out.2.1.size
        have hpl : (pre ++ [x]).length = pre.length + 1 := by simp
        refine ⟨(((u0 HGA.out).trans (keeps_own q3.out.2.1 HO2.out)).trans (KeepsOthers.setCell _ _ _)).from _,
         ((KpV.grown HGA.out (by omega)).trans (KpV.to q3.out.2.1 (by omega) (fun b e => ⟨by have := (HO2.out.lt _ e).1; omega, own_type HO2.out e (by decide)⟩))).trans (KpV.to hg6 (by omega) (fun b e => by
          have := Option.some.inj e
          subst this
          exact ⟨by omega, fun cs fr h => by rw [q3.out.2.2] at h; cases h⟩)),
         _, ((HB.out.1.grown HGA.out (by simp)).grown q3.out.2.1 (hne _ (by omega)).1).grown hg6 (hne _ (by omega)).2, ((HB.out.2.1.grown HGA.out (by simp)).grown q3.out.2.1 (hne _ (by omega)).1).grown hg6 (hne _ (by omega)).2, q3.out.2.2.set 0 _, ?_, ⟨?_, ?_⟩, za (ul (za HB.out.2.2.2.2.1 (vq HGA.out _)) q3.out.2.1 HO2.out (by omega)) hg6⟩
        · have := q3.out.1.kept hg6 (.inr (Boxed.not_row (t := 102) q3.out.2.2 (by decide) q3.out.1).symm)
          rw [hpl, whoL, List.map_append, List.map_append]
          rw [HN.out.2.2.2.1] at this
          exact this
        · rw [hpl]; exact pre_snoc HN.out.2.2.2.2.1 HN.out.2.1
        · rw [hpl]; exact zcj HN.out.2.2.2.2.2.1 (HJ'.out.2 (by first | rfl | trivial))
    · have d1 : decide (who <= wy) = true := by simp; omega
      have HJ' := hQ_ (HJ.out.2 hlt)
      clear hlt
      gi_wp2
      refine yt (S := fun V => V.cell? ⟨q + 1 + 1, 0, none⟩ = some (.slice (some ⟨gb, 0, none⟩) (j + 1) cap) /\ V.cell? ⟨g, 0, none⟩ = some (.int .i64 who) /\ V.cell? ⟨gb, j, none⟩ = some (.int .i64 wy)) (by kernel_rfl) (by kernel_rfl) (by rintro ⟨_, _, h⟩; exact h) ⟨(zh (World.grownBy.refl W none)).cell cb (by simp), (zh (World.grownBy.refl W none)).cell c0 (by simp), (zh (World.grownBy.refl W none)).cell hcy (by simp)⟩ (fun _ => ?_)
      refine wpAnyH_take (i := 0) (oi := _) (v := ?v0c) rfl (by kernel_rfl) (by kernel_rfl) (by kernel_rfl) (fun _ _ _ h => h) (Or.inl ⟨by rfl, ?hy0c⟩) (by assumption) ?rest0c
      case hy0c => (intro V hSw; (try dsimp only at hSw); go_simp) <;> with_reducible rfl
      simp only [Act.put, List.getElem_toArray, List.getElem_cons_zero, List.setIfInBounds_toArray, List.set_cons_zero, List.set_cons_succ]
      refine wpAnyH_take (i := 1) (oi := _) (v := ?v1c) rfl (by kernel_rfl) (by kernel_rfl) (by kernel_rfl) (fun _ _ _ h => h) (Or.inl ⟨by rfl, ?hy1c⟩) (by assumption) ?rest1c
      case hy1c => (intro V hSw; (try dsimp only at hSw); go_simp) <;> with_reducible rfl
      simp only [Act.put, List.getElem_toArray, List.getElem_cons_succ, List.getElem_cons_zero, List.setIfInBounds_toArray, List.set_cons_zero, List.set_cons_succ]
      refine wpAnyH_take (i := 2) (oi := _) (v := ?v2c) rfl (by kernel_rfl) (by kernel_rfl) (by kernel_rfl) (fun _ _ _ h => h) (Or.inl ⟨by rfl, ?hy2c⟩) (by assumption) ?rest2c
      case hy2c => (intro V hSw; (try dsimp only at hSw); go_simp) <;> with_reducible rfl
      simp only [Act.put, List.getElem_toArray, List.getElem_cons_succ, List.getElem_cons_zero, List.setIfInBounds_toArray, List.set_cons_zero, List.set_cons_succ]
      refine wpAnyH_take (i := 3) (oi := _) (v := ?v3c) rfl (by kernel_rfl) (by kernel_rfl) (by kernel_rfl) (fun _ _ _ h => h) (Or.inl ⟨by rfl, ?hy3c⟩) (by assumption) ?rest3c
      case hy3c => (intro V hSw; (try dsimp only at hSw); go_simp) <;> with_reducible rfl
      simp only [Act.put, List.getElem_toArray, List.getElem_cons_succ, List.getElem_cons_zero, List.setIfInBounds_toArray, List.set_cons_zero, List.set_cons_succ]
      refine wpAnyH_take (i := 4) (oi := _) (v := ?v4c) rfl (by kernel_rfl) (by kernel_rfl) (by kernel_rfl) (fun _ _ _ h => h) (Or.inl ⟨by rfl, ?hy4c⟩) (by assumption) ?rest4c
      case hy4c => (intro V hSw; (try dsimp only at hSw); go_simp) <;> with_reducible rfl
      simp only [Act.put, List.getElem_toArray, List.getElem_cons_succ, List.getElem_cons_zero, List.setIfInBounds_toArray, List.set_cons_zero, List.set_cons_succ]
      refine wpAnyH_take (i := 5) (oi := _) (v := ?v5c) rfl (by kernel_rfl) (by kernel_rfl) (by kernel_rfl) (fun _ _ _ h => h) (Or.inl ⟨by rfl, ?hy5c⟩) (by assumption) ?rest5c
      case hy5c => (intro V hSw; (try dsimp only at hSw); go_simp) <;> with_reducible rfl
      simp only [Act.put, List.getElem_toArray, List.getElem_cons_succ, List.getElem_cons_zero, List.setIfInBounds_toArray, List.set_cons_zero, List.set_cons_succ]
      refine wpAnyH_take (i := 6) (oi := _) (v := ?v6c) rfl (by kernel_rfl) (by kernel_rfl) (by kernel_rfl) (fun _ _ _ h => h) (Or.inl ⟨by rfl, ?hy6c⟩) (by assumption) ?rest6c
      case hy6c => (intro V hSw; (try dsimp only at hSw); go_simp) <;> with_reducible rfl
      simp only [Act.put, List.getElem_toArray, List.getElem_cons_succ, List.getElem_cons_zero, List.setIfInBounds_toArray, List.set_cons_zero, List.set_cons_succ]
      refine wpAnyH_take (i := 7) (oi := _) (v := ?v7c) rfl (by kernel_rfl) (by kernel_rfl) (by kernel_rfl) (fun _ _ _ h => h) (Or.inl ⟨by rfl, ?hy7c⟩) (by assumption) ?rest7c
      case hy7c => (intro V hSw; (try dsimp only at hSw); go_simp) <;> with_reducible rfl
      simp only [Act.put, List.getElem_toArray, List.getElem_cons_succ, List.getElem_cons_zero, List.setIfInBounds_toArray, List.set_cons_zero, List.set_cons_succ]
      refine wpAnyH_take (i := 8) (oi := _) (v := ?v8c) rfl (by kernel_rfl) (by kernel_rfl) (by kernel_rfl) (fun _ _ _ h => h) (Or.inl ⟨by rfl, ?hy8c⟩) (by assumption) ?rest8c
      case hy8c => (intro V hSw; (try dsimp only at hSw); go_simp) <;> with_reducible rfl
      simp only [Act.put, List.getElem_toArray, List.getElem_cons_succ, List.getElem_cons_zero, List.setIfInBounds_toArray, List.set_cons_zero, List.set_cons_succ]
      refine wpAnyH_take (i := 9) (oi := _) (v := ?v9c) rfl (by kernel_rfl) (by kernel_rfl) (by kernel_rfl) (fun _ _ _ h => h) (Or.inl ⟨by rfl, ?hy9c⟩) (by assumption) ?rest9c
      case hy9c => (intro V hSw; (try dsimp only at hSw); go_simp; (try rw [hwr])) <;> with_reducible rfl
      simp only [Act.put, List.getElem_toArray, List.getElem_cons_succ, List.getElem_cons_zero, List.setIfInBounds_toArray, List.set_cons_zero, List.set_cons_succ]
      refine wpAnyH_take (i := 10) (oi := _) (v := ?v10c) rfl (by kernel_rfl) (by kernel_rfl) (by kernel_rfl) (fun _ _ _ h => h) (Or.inl ⟨by rfl, ?hy10c⟩) (by assumption) ?rest10c
      case hy10c => (intro V hSw; (try dsimp only at hSw); go_simp) <;> with_reducible rfl
      simp only [Act.put, List.getElem_toArray, List.getElem_cons_succ, List.getElem_cons_zero, List.setIfInBounds_toArray, List.set_cons_zero, List.set_cons_succ]
      refine wpAnyH_take (i := 11) (oi := _) (v := ?v11c) rfl (by kernel_rfl) (by kernel_rfl) (by kernel_rfl) (fun _ _ _ h => h) (Or.inl ⟨by rfl, ?hy11c⟩) (by assumption) ?rest11c
      case hy11c => (intro V hSw; (try dsimp only at hSw); go_simp) <;> with_reducible rfl
      simp only [Act.put, List.getElem_toArray, List.getElem_cons_succ, List.getElem_cons_zero, List.setIfInBounds_toArray, List.set_cons_zero, List.set_cons_succ]
      refine wpAnyH_take (i := 12) (oi := _) (v := ?v12c) rfl (by kernel_rfl) (by kernel_rfl) (by kernel_rfl) (fun _ _ _ h => h) (Or.inl ⟨by rfl, ?hy12c⟩) (by assumption) ?rest12c
      case hy12c => (intro V hSw; (try dsimp only at hSw); go_simp) <;> with_reducible rfl
      simp only [Act.put, List.getElem_toArray, List.getElem_cons_succ, List.getElem_cons_zero, List.setIfInBounds_toArray, List.set_cons_zero, List.set_cons_succ]
      refine wpAnyH_take (i := 13) (oi := _) (v := ?v13c) rfl (by kernel_rfl) (by kernel_rfl) (by kernel_rfl) (fun _ _ _ h => h) (Or.inl ⟨by rfl, ?hy13c⟩) (by assumption) ?rest13c
      case hy13c => (intro V hSw; (try dsimp only at hSw); go_simp) <;> with_reducible rfl
      simp only [Act.put, List.getElem_toArray, List.getElem_cons_succ, List.getElem_cons_zero, List.setIfInBounds_toArray, List.set_cons_zero, List.set_cons_succ]
      refine wpAnyH_done (by kernel_rfl) ?_ _
      clear cb hcy
      obtain ⟨W1, hW1⟩ : ∃ W1, W1 = W.drew := ⟨_, rfl⟩
      rw [<- hW1]
      have gW1 : W.grownBy W1 none := by rw [hW1]; exact zh (World.grownBy.refl W none)
      have cr := (HB.out.2.1.grown gW1 (by simp)).cell 0
      have fr := (HB.out.2.1.grown gW1 (by simp)).frozen 0
      simp only [List.getElem?_toArray, List.getElem?_cons_zero] at cr
      have ce := HVE.out W1 gW1
      have HG2 := hQ_ gW1
      clear gW1 hW1 c0
      gi_wp2
      have hg6 := grownBy_setCell' W1 (q + 1) (errV (E 11))
      exact ⟨((u0 HG2.out).trans (KeepsOthers.setCell _ _ _)).from _, ⟨rfl, HJ'.out⟩, (HB.out.2.1.grown HG2.out (by simp)).set 0 _, z8 (za HB.out.2.2.2.2.2.2 HG2.out) hg6 (by have := HX.out.2.2.2.1; omega)⟩
 case done =>
  rintro Dd xs W hD hxs hI hK
  have hI' : ∃ v, QI W0 q gv V dg sg L v L W := by rw [hxs] at hI; exact hI
  clear hI hxs
  obtain ⟨v, hB0, hB1, hB2, hown, ⟨_, hgood⟩, hG0⟩ := hI'
  obtain ⟨hR, he, hB4, hBw, hV, ok, hl, hG, hgv, hdg⟩ := HE.out
  have hGw : w.grownBy W none := z8 HX.out.1 hG0 (by have := HX.out.2.2.2.1; omega)
  obtain ⟨A2, cap, hv, hcap, hints⟩ := own_ints hown
  subst hv
  have hwl : (whoL sg L).length = L.length := by simp [whoL]
  obtain ⟨x0, x1, _⟩ := y8 (hgv ▸ hB0)
  have cb := hB2.cell 0
  have cr := hB1.cell 0
  have fr := hB1.frozen 0
  simp only [List.getElem?_toArray, List.getElem?_cons_zero] at cb cr
  have heW := he.grown hGw (fun _ e => by cases e)
  have HC := hQ_ (enough_is W A A2 c cap B V (whoL sg L) (E 10) (E 0) (E 16) (hV.grown hGw) ok hl hints (by rw [hwl]; exact zdc HX.out.2.2.2.2.1 hgood (Nat.le_refl _)) hcap (Nat.le_trans hBw hGw.size) (heW.var 10 (by omega)) (heW.var 0 (by omega)) (heW.var 16 (by omega)))
  have ce : ∀ V', W.grownBy V' none -> V'.cell? ⟨11, 0, none⟩ = some (errV (E 11)) := fun V' h => ((he.grown (za hGw h) (fun _ e => by cases e)).var 11 (by omega)).1
  have HVE := hQ_ ce
  obtain ⟨n, hn⟩ : ∃ n, V.length = n := ⟨_, rfl⟩
  obtain ⟨m, hm⟩ : ∃ m, (whoL sg L).length = m := ⟨_, rfl⟩
  obtain ⟨r, hr⟩ : ∃ r, r = u1 V (whoL sg L) := ⟨_, rfl⟩
  rw [hn] at HC x1
  rw [hm] at HC cb
  rw [<- hr] at HC
  have hres : ug V dg sg L = r := by rw [ug, <- hr]; simp [hgood]
  have HRS := hQ_ hres
  have HB := hQ_ (aQ hB1 (aQ hGw (aQ hK hD)))
  clear hB0 hB1 hB2 hown hgood hG0 hR he hB4 hBw hV ok hl hG hgv hdg hGw hcap hints hwl heW ce hn hm hr hres hK hD
  gi_wp2
  refine ⟨trivial, ?_⟩
  refine (callsIn_wide.2 HC.out).mono ?_
  rintro e2 W2 ⟨rfl, k2⟩
  have g2 := grown_below0 k2
  have ce2 := HVE.out W2 g2
  have HB2 := hQ_ (HB.out.1.grown g2 (by simp))
  have HK2 := hQ_ ((g2.block Dd (Array.getElem?_eq_some_iff.1 HB.out.2.2.1).1 (by simp)).trans HB.out.2.2.1)
  have HG2 := hQ_ (za HB.out.2.1 g2)
  have cr2 := HB2.out.cell 0
  have fr2 := HB2.out.frozen 0
  simp only [List.getElem?_toArray, List.getElem?_cons_zero] at cr2
  clear k2 g2 x0 x1 cb cr fr
  cases r
  · gi_wp2
    have hg6 := grownBy_setCell' W2 (q + 1) (errV (E 11))
    have hK' : (W2.setCell ⟨q + 1, 0, none⟩ (errV (E 11))).heap[Dd]? = some (.deferred (some [])) := (hg6.block Dd (Array.getElem?_eq_some_iff.1 HK2.out).1 (fun e => by have := Option.some.inj e; have := HB.out.2.2.2; have := HX.out.2.1; omega)).trans HK2.out
    have hr1 : Blk ((W2.setCell ⟨q + 1, 0, none⟩ (errV (E 11))).putObj Dd (.deferred none)) (q + 1) 40 #[(errV (E 11))] := (show Blk (W2.setCell ⟨q + 1, 0, none⟩ (errV (E 11))) (q + 1) 40 #[(errV (E 11))] from HB2.out.set 0 _).grown (grownBy_putObj' _ Dd (.deferred none)) (fun e => by have := Option.some.inj e; have := HB.out.2.2.2; have := HX.out.2.1; omega)
    have hq := HX.out.2.2.2.1
    refine ⟨by simp, .inl ⟨_, _, rfl, run_takeDeferred hK', ?_⟩⟩
    refine ⟨(errV (E 11)), ?_, by rw [HRS.out]; rfl, z8 (z8 HG2.out hg6 (by omega)) (grownBy_putObj' _ Dd (.deferred none)) (by have := HB.out.2.2.2; have := HX.out.2.1; omega)⟩
    exact z5 rfl _ _ _ ⟨q + 1, 0, none⟩ (errV (E 11)) rfl (zeh (hr1.cell 0))
  · gi_wp2
    have hg6 := grownBy_setCell' W2 (q + 1) Value.nilIface
    have hK' : (W2.setCell ⟨q + 1, 0, none⟩ Value.nilIface).heap[Dd]? = some (.deferred (some [])) := (hg6.block Dd (Array.getElem?_eq_some_iff.1 HK2.out).1 (fun e => by have := Option.some.inj e; have := HB.out.2.2.2; have := HX.out.2.1; omega)).trans HK2.out
    have hr1 : Blk ((W2.setCell ⟨q + 1, 0, none⟩ Value.nilIface).putObj Dd (.deferred none)) (q + 1) 40 #[Value.nilIface] := (show Blk (W2.setCell ⟨q + 1, 0, none⟩ Value.nilIface) (q + 1) 40 #[Value.nilIface] from HB2.out.set 0 _).grown (grownBy_putObj' _ Dd (.deferred none)) (fun e => by have := Option.some.inj e; have := HB.out.2.2.2; have := HX.out.2.1; omega)
    have hq := HX.out.2.2.2.1
    refine ⟨by simp, .inl ⟨_, _, rfl, run_takeDeferred hK', ?_⟩⟩
    refine ⟨Value.nilIface, ?_, by rw [HRS.out]; rfl, z8 (z8 HG2.out hg6 (by omega)) (grownBy_putObj' _ Dd (.deferred none)) (by have := HB.out.2.2.2; have := HX.out.2.1; omega)⟩
    exact z5 rfl _ _ _ ⟨q + 1, 0, none⟩ Value.nilIface rfl (zeh (hr1.cell 0))
 case stop =>
  rintro Dd cd pre W hD _ ⟨⟨rfl, hng⟩, hB1, hGw⟩ hK
  have hr1 := hB1.grown (grownBy_putObj' W Dd (.deferred none)) (fun e => by have := Option.some.inj e; have := HX.out.2.1; omega)
  have hq := HX.out.2.2.2.1
  have hres : ug V dg sg L = false := by rw [ug]; simp [hng]
  gi_wp2
  refine ⟨by simp, .inl ⟨_, _, rfl, run_takeDeferred hK, ?_⟩⟩
  refine ⟨errV (E 11), ?_, by rw [hres]; rfl, z8 hGw (grownBy_putObj' W Dd (.deferred none)) (by have := HX.out.2.1; omega)⟩
  exact z5 rfl _ _ _ ⟨q + 1, 0, none⟩ (errV (E 11)) rfl (zeh (hr1.cell 0))
end
end Go.Proofs.YtigafnbofmiknaaGreatDoor
