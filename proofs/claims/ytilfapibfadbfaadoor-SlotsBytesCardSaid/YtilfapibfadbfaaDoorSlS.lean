/-
  SlotsBytes, walked.
-/
import Derived.Test.YtilfapibfadbfaaDoorSlP
import Derived.Test.YtilfapibfadbfaaDoorSlJ
import Derived.Test.YtilfapibfadbfaaDoorArr2
namespace Go.Proofs.YtilfapibfadbfaaDoor
open Go.RowKit Go.Maps

attribute [local go_sem] Oper.semAt_some
theorem slotL_take (K : Nat) (l : List UInt8) : slotL K (l.take 31) = slotL K l := by
  have e : headL K (l.take 31) = headL K l := by
    simp only [headL, List.length_take, List.take_take, Nat.min_self]
    rw [show min (min 31 l.length) 31 = min l.length 31 by omega, show 31 - min 31 l.length = 31 - l.length by omega]
  rw [slotL, slotL, e]
def twoB (b1 b2 : List UInt8) (k : Nat) : List UInt8 := if k = 0 then b1 else b2
def twoZ (b1 b2 : List UInt8) : DkS := wrS (wrS (newS 3) 1 (intsB b1)) 2 (intsB b2)
theorem twoZ_rows {b1 b2 : List UInt8} {k : Nat} (hk : k < 2) : readS (twoZ b1 b2) (1 + k) = intsB (twoB b1 b2 k) := by
  have h : k = 0 ∨ k = 1 := by omega
  rcases h with rfl | rfl <;> rfl
theorem bytes_of (l : List Int) (h : ∀ z ∈ l, (Lit.int .u8 z).wf = true) : intsB (bytesL l) = l :=
  ints_bytes fun z hz => by
    have := h z hz
    have hz : 0 ≤ z ∧ z ≤ 255 := by simpa [Lit.wf, IntKind.min, IntKind.max, IntKind.signed, IntKind.bits] using this
    omega
theorem parse_len {bs : List UInt8} {c : Nat} {x : List UInt8} (h : parseS bs = some (c, x)) : x.length ≤ 55 := by
  unfold parseS at h
  split at h
  · rename_i hh
    injection h with h
    injection h with _ h
    rw [← h, List.length_take]; omega
  · cases h
theorem sel_len {bb : Nat → List UInt8} {c : Nat} {x : List UInt8} (h : selK bb 2 = some (c, x)) : x.length ≤ 55 := by
  have key : ∀ k (c : Nat) (x : List UInt8), selK bb k = some (c, x) → x.length ≤ 55 := by
    intro k
    induction k with
    | zero => intro c x h; cases h
    | succ k ih =>
      intro c x h
      rw [selK] at h
      unfold selStep at h
      split at h
      · exact ih _ _ h
      · rename_i cx hp
        split at h
        · exact ih _ _ h
        · split at h
          · rename_i c0 h0
            split at h
            · rw [h] at h0; exact ih _ _ h0
            · rw [h] at hp; exact parse_len hp
          · rw [h] at hp; exact parse_len hp
  exact key 2 c x h
theorem eq_secs (w : World) (es : Array Value) (L : List Int) (hL : L.length = 64) (h : es = arrV .u8 L) : Sem.run Tryd.prog (Op.equalIn 10000 23 (.agg es) (.agg es)) w = .ok true w := by
  have e := eq_arr (P := Tryd.prog) w 9998 Tryd.underlying23 (by kernel_rfl) Tryd.underlying5 (by kernel_rfl) (by kernel_rfl) L L hL hL
  rw [decide_eq_true rfl] at e
  rw [h]; exact e
theorem ErrAt.more {w : World} {B B' k : Nat} {a : Addr} (h : ErrAt w B k a) (hB : B ≤ B') : ErrAt w B' k a := ⟨h.1, Nat.lt_of_lt_of_le h.2 hB⟩
theorem ErrVars.more {S : List Nat} {w : World} {B B' : Nat} {E : Nat → Addr} (h : ErrVars S w B E) (hB : B ≤ B') : ErrVars S w B' E := ⟨fun i hi => (h.var i hi).more hB⟩
theorem wpListIn_load_row_w {F : Fence} {nF : Nat} {P : Program} {ops : Array Oper} {rest : List Oper} {o : Oper} {a : Act} {w : World} {Q : Exit → Act → World → Prop} (hw : Region.wanted o (yielded ops a.tmps) = true) (ty : TypeId) (x : Operand) (ho : o.op = .load ty x)
    (g : Nat) (hx : a.eval x = .pointer (some ⟨g, 0, none⟩)) (t : TypeId) (cs : Array Value) (fr : Nat × Nat) (d : TypeDesc) (hg : w.heap[g]? = some (.cells cs t fr))
    (hu : P.underlying ty = some d) (hd : (match d with | .struct _ | .array _ _ => true | _ => false) = true) (hi : (P.info? ty).map (·.size) = some cs.size)
    (h : wpListIn F nF P ops Q rest (a.put o.dst (.agg cs)) w) : wpListIn F nF P ops Q (o :: rest) a w := by
  refine BigFrame.wpListIn_want hw fun K hK => ?_
  unfold Oper.wpIn
  refine ⟨by simp [Oper.about, ho], ?_⟩
  rw [Oper.semAt_plain F _ _ (by rw [ho]; intro c hc'; cases hc')]
  unfold execOp
  simp only [ho, hx, Instr.loadAt, Instr.sureAddr, Sem.run_bind, Sem.run_pure, Result.andThen_ok, run_loadVar_row w g t ty cs fr d hg hu hd hi]
  exact hK _ _ h
/-- Two rows stored into two new blocks. -/
theorem two_rows {w X : World} {p p' : Nat} {t : TypeId} {zs d1 d2 : Array Value} (hX : w.grownBy X none) (hp : w.heap.size ≤ p) (hp' : w.heap.size ≤ p') (hne : p ≠ p') (h1 : Blk X p t zs) (h2 : Blk X p' t zs) :
    w.grownBy ((X.setRow p d1).setRow p' d2) none ∧ Blk ((X.setRow p d1).setRow p' d2) p t d1 ∧ Blk ((X.setRow p d1).setRow p' d2) p' t d2 :=
  ⟨grown_row (grown_row hX (.inl hp) _) (.inl hp') _, (h1.row d1).farRow hne _, (h2.farRow (fun e => hne e.symm) _).row d2⟩
theorem two_ranges {w : World} {g : Nat} {t : TypeId} {cs d1 d2 : Array Value} (h : Blk w g t cs) (hc : cs.toList = d1.toList ++ d2.toList) (hd : d1.size = 64) : w.rangeAt g 0 d1.toList ∧ w.rangeAt g 64 d2.toList := by
  have r := range_of_blk h
  rw [hc] at r
  constructor
  · intro j v hv
    have hj := (List.getElem?_eq_some_iff.1 hv).1
    exact r j v (by rw [List.getElem?_append_left hj]; exact hv)
  · intro j v hv
    have := r (64 + j) v (by rw [List.getElem?_append_right (by simp; omega), show 64 + j - d1.toList.length = j by simp; omega]; exact hv)
    rwa [Nat.zero_add] at this
set_option maxRecDepth 100000 in
set_option maxHeartbeats 2000000 in
theorem sbytes_any (w : World) (hR : Rounds w) (E : Nat → Addr) (he : ErrEnv w w.heap.size E) (C : Int) (hC : C < 9223372036854775808) (A : Option Addr) (n c : Nat) (l : List UInt8) (hn : l.length = n) (hnc : n ≤ c) (hl : BytesAt w A l) (b1 b2 : List UInt8) (h1 : b1.length = 64) (h2 : b2.length = 64) :
    Calls Tryd.prog 3 #[.int .i64 C, .slice A n c, .agg ((intsB b1 ++ intsB b2).map (Value.int .u8)).toArray] w fun e w' => e = .returned (.bool true) ∧ w.grownBy w' none := by
  have her : ErrAt w w.heap.size 0 (E 0) := he.var 0 (by omega)
  have hep : ErrAt w w.heap.size 6 (E 5) := he.var 5 (by omega)
  have hed : ErrAt w w.heap.size 1 (E 6) := he.var 6 (by omega)
  have hef : ErrAt w w.heap.size 7 (E 7) := he.var 7 (by omega)
  have hv := ErrEnv.vars he [0, 1] (by simp)
  obtain ⟨cs, hcs⟩ : ∃ cs, ((intsB b1 ++ intsB b2).map (Value.int .u8)).toArray = cs := ⟨_, rfl⟩
  obtain ⟨d1, hd1⟩ : ∃ d1, ((intsB b1).map (Value.int .u8)).toArray = d1 := ⟨_, rfl⟩
  obtain ⟨d2, hd2⟩ : ∃ d2, ((intsB b2).map (Value.int .u8)).toArray = d2 := ⟨_, rfl⟩
  obtain ⟨zs, hzs⟩ : ∃ zs : Array Value, zs = (zeroR.map (Value.int .u8)).toArray := ⟨_, rfl⟩
  have hz : ∀ w, Sem.run Tryd.prog (zeroValue 23) w = .ok (.agg zs) w := fun w => by rw [hzs]; exact zero_sec w (by kernel_rfl)
  have hz64 : zs.size = 64 := by rw [hzs]; simp [zeroR]
  have hd1z : d1.size = 64 := by rw [← hd1]; simp [intsB, h1]
  have hd2z : d2.size = 64 := by rw [← hd2]; simp [intsB, h2]
  have hd1o : d1.all (·.oneCell') = true := by rw [← hd1]; simp [Array.all_eq_true_iff_forall_mem, Value.oneCell']
  have hd2o : d2.all (·.oneCell') = true := by rw [← hd2]; simp [Array.all_eq_true_iff_forall_mem, Value.oneCell']
  have hcd : cs.toList = d1.toList ++ d2.toList := by rw [← hcs, ← hd1, ← hd2]; simp
  have HX := Lib.hid (And.intro hR (And.intro hv (And.intro her (And.intro hep (And.intro hed (And.intro hef (And.intro he (And.intro hn (And.intro hl hnc)))))))))
  have HB := Lib.hid (And.intro h1 (And.intro h2 (And.intro (show secV (intsB b1) = .agg d1 by rw [secV, hd1]) (show secV (intsB b2) = .agg d2 by rw [secV, hd2]))))
  have HD := Lib.hid (And.intro hz64 (And.intro hd1z (And.intro hd2z (And.intro hd1o (And.intro hd2o hcd)))))
  have HZ := Lib.hid hz
  have HDD := Lib.hid (And.intro hd1 hd2)
  rw [hcs]
  clear hR hv her hep hed hef he hn hl hnc h1 h2 hd1z hd2z hd1o hd2o hcd hz64 hcs hd1 hd2 hzs hz
  refine (callsIn_wide (n := 10)).1 ?_
  refine callsIn_of_wp Tryd.func3 rfl trivial ?_ rfl
  simp only [Tryd.ntmps3, List.size_toArray, List.length_cons, List.length_nil, Nat.reduceAdd, Nat.reduceSub, Array.replicate_succ, Array.replicate_zero, List.push_toArray, List.append_toArray, List.nil_append, List.cons_append]
  gi_upto_region 1 with fail
  obtain ⟨q, hq⟩ : ∃ q, w.heap.size = q := ⟨_, rfl⟩
  obtain ⟨W1, hW1⟩ : ∃ W1, w.alloc (.cells cs 24) = W1 := ⟨_, rfl⟩
  have gW1 : w.grownBy W1 none := by rw [← hW1]; exact World.grownBy_alloc _ _ none
  have bq : Blk W1 q 24 cs := by rw [← hW1, ← hq]; exact Blk.new _ _ _
  try rw [hq]
  try rw [hW1]
  have HQ := Lib.hid (And.intro gW1 bq)
  clear gW1 bq hq hW1
  gi_cut [7, 8] from 200 (fun v7 v8 wx => ∃ p7 p8 : Nat, v7 = .pointer (some ⟨p7, 0, none⟩) ∧ v8 = .pointer (some ⟨p8, 0, none⟩) ∧ w.grownBy wx none ∧ Blk wx p7 23 d1 ∧ Blk wx p8 23 d2)
  case first =>
    rename_i J8 K8 hJ8 hK8
    refine wpIn_mono (Q := fun e a' w' => e = .normal ∧ K8 a' w') ?reg (by rintro e a' w' ⟨rfl, h⟩; exact h)
    case reg =>
      have g2 := grown_drew HQ.out.1
      have bq2 := HQ.out.2.drew
      obtain ⟨V2, hV2⟩ : ∃ V2, W1.drew = V2 := ⟨_, rfl⟩
      rw [hV2] at g2 bq2
      have HG := Lib.hid (And.intro g2 bq2)
      have HS := Lib.hid (show ∀ V, Blk V q 24 cs → V.rangeAt q 0 d1.toList ∧ V.rangeAt q 64 d2.toList from fun V h => two_ranges h HD.out.2.2.2.2.2 HD.out.2.1)
      clear g2 bq2
      refine wpIn_region_held_wide (S := fun V => V.rangeAt q 0 d1.toList ∧ V.rangeAt q 64 d2.toList) (by kernel_rfl) (by kernel_rfl) (by rintro ⟨_, _, h, _⟩; cases h) (by rw [hV2]; exact HS.out V2 HG.out.2) (fun hHeld => ?_)
      rw [hV2] at hHeld ⊢
      refine wpAnyH_take (i := 0) (oi := _) (v := ?va0) rfl (by kernel_rfl) (by kernel_rfl) (by kernel_rfl) (fun _ _ _ h => by cases h.1) (Or.inl ⟨by rfl, ?hya0⟩) (by assumption) ?resta0
      case hya0 => (intro V hSw; (try dsimp only at hSw); go_simp) <;> with_reducible rfl
      try simp only [Act.put, List.getElem_toArray, List.getElem_cons_succ, List.getElem_cons_zero, List.setIfInBounds_toArray, List.set_cons_zero, List.set_cons_succ]
      refine wpAnyH_take (i := 1) (oi := _) (v := .agg d1) rfl (by kernel_rfl) (by kernel_rfl) (by kernel_rfl) (fun _ _ _ h => by cases h.1) (yieldsIf_load_mid (by rfl) _ _ rfl q 0 rfl d1.toList _ (fun V hSw => hSw.1) Tryd.underlying23 rfl (by rw [Array.length_toList, HD.out.2.1]; kernel_rfl)) (by assumption) ?resta1
      try simp only [Act.put, List.getElem_toArray, List.getElem_cons_succ, List.getElem_cons_zero, List.setIfInBounds_toArray, List.set_cons_zero, List.set_cons_succ]
      refine wpAnyH_take (i := 2) (oi := _) (v := ?va2) rfl (by kernel_rfl) (by kernel_rfl) (by kernel_rfl) (fun _ _ _ h => by cases h.1) (Or.inl ⟨by rfl, ?hya2⟩) (by assumption) ?resta2
      case hya2 => (intro V hSw; (try dsimp only at hSw); go_simp) <;> with_reducible rfl
      try simp only [Act.put, List.getElem_toArray, List.getElem_cons_succ, List.getElem_cons_zero, List.setIfInBounds_toArray, List.set_cons_zero, List.set_cons_succ]
      refine wpAnyH_take (i := 3) (oi := _) (v := .agg d2) rfl (by kernel_rfl) (by kernel_rfl) (by kernel_rfl) (fun _ _ _ h => by cases h.1) (yieldsIf_load_mid (by rfl) _ _ rfl q 64 rfl d2.toList _ (fun V hSw => hSw.2) Tryd.underlying23 rfl (by rw [Array.length_toList, HD.out.2.2.1]; kernel_rfl)) (by assumption) ?resta3
      try simp only [Act.put, List.getElem_toArray, List.getElem_cons_succ, List.getElem_cons_zero, List.setIfInBounds_toArray, List.set_cons_zero, List.set_cons_succ]
      refine wpAnyH_ready (rs := [4, 5]) (by kernel_rfl) (by simp) ?_
      refine (AllReadyH.cons (o := _) rfl (fun K9 hK => ?_) (AllReadyH.cons (o := _) rfl (fun K9 hK => ?_) AllReadyH.nil))
      · skip
        have hz := HZ.out
        go_simp
        refine hK.out _ _ (HS.out _ (HG.out.2.alloc _)) (fun hHeld => ?_)
        clear hK K9
        try simp only [Act.put, List.getElem_toArray, List.getElem_cons_succ, List.getElem_cons_zero, List.setIfInBounds_toArray, List.set_cons_zero, List.set_cons_succ]
        refine wpAnyH_ready (rs := [5]) (by kernel_rfl) (by simp) ?_
        refine (AllReadyH.cons (o := _) rfl (fun K9 hK => ?_) AllReadyH.nil)
        go_simp
        clear hz
        refine hK.out _ _ (HS.out _ ((HG.out.2.alloc _).alloc _)) (fun hHeld => ?_)
        clear hK K9
        try simp only [Act.put, List.getElem_toArray, List.getElem_cons_succ, List.getElem_cons_zero, List.setIfInBounds_toArray, List.set_cons_zero, List.set_cons_succ]
        have n1 : Blk ((V2.alloc (.cells zs 23)).alloc (.cells zs 23)) V2.heap.size 23 zs := (Blk.new V2 _ _).alloc _
        have n2 : Blk ((V2.alloc (.cells zs 23)).alloc (.cells zs 23)) (V2.heap.size + 1) 23 zs := by
          have h := Blk.new (V2.alloc (.cells zs 23)) 23 zs
          rwa [World.size_alloc] at h
        have gX : V2.grownBy ((V2.alloc (.cells zs 23)).alloc (.cells zs 23)) none := grown_trans (World.grownBy_alloc _ _ none) (World.grownBy_alloc _ _ none)
        have qX : Blk ((V2.alloc (.cells zs 23)).alloc (.cells zs 23)) q 24 cs := (HG.out.2.alloc _).alloc _
        obtain ⟨X, hX⟩ : ∃ X, (V2.alloc (.cells zs 23)).alloc (.cells zs 23) = X := ⟨_, rfl⟩
        obtain ⟨p, hp⟩ : ∃ p, V2.heap.size = p := ⟨_, rfl⟩
        obtain ⟨p', hp'⟩ : ∃ p', V2.heap.size + 1 = p' := ⟨_, rfl⟩
        try simp only [World.size_alloc]
        rw [hX] at n1 n2 gX qX hHeld ⊢
        rw [hp'] at n2 ⊢
        rw [hp] at n1 ⊢
        have hpq : p ≠ p' ∧ q ≠ p ∧ q ≠ p' := by have := HG.out.2.lt; omega
        have hwp : w.heap.size ≤ p ∧ w.heap.size ≤ p' := by have := HG.out.1.size; omega
        have b7 : Blk X p 23 zs := n1
        have b8 : Blk X p' 23 zs := n2
        have HN := Lib.hid (And.intro b7 (And.intro b8 (And.intro qX (And.intro (grown_trans HG.out.1 gX) (And.intro hpq hwp)))))
        clear n1 n2 gX qX hX hp hp' hpq hwp b7 b8
        refine wpAnyH_ready (rs := [6]) (by kernel_rfl) (by simp) ?_
        refine (AllReadyH.cons (o := _) rfl (fun K9 hK => ?_) AllReadyH.nil)
        refine ready_store_mid (by rfl) 23 _ _ rfl p 0 d1 rfl rfl (there_blk HN.out.1 (by rw [HD.out.1, HD.out.2.1]; exact Nat.le_refl _)) (by rw [HD.out.2.1]; kernel_rfl) HD.out.2.2.2.1 ?_
        rw [setCells_row (P := Tryd.prog) (ty := 23) HN.out.1 (by rw [HD.out.2.1]; kernel_rfl) (by rw [HD.out.1, HD.out.2.1]) HD.out.2.2.2.1]
        refine hK.out _ _ (HS.out _ (HN.out.2.2.1.farRow HN.out.2.2.2.2.1.2.1 _)) (fun hHeld => ?_)
        clear hK K9
        try simp only [Act.put, List.getElem_toArray, List.getElem_cons_succ, List.getElem_cons_zero, List.setIfInBounds_toArray, List.set_cons_zero, List.set_cons_succ]
        refine wpAnyH_ready (rs := [7]) (by kernel_rfl) (by simp) ?_
        refine (AllReadyH.cons (o := _) rfl (fun K9 hK => ?_) AllReadyH.nil)
        refine ready_store_mid (by rfl) 23 _ _ rfl p' 0 d2 rfl rfl (there_blk (HN.out.2.1.farRow (fun e => HN.out.2.2.2.2.1.1 e.symm) _) (by rw [HD.out.1, HD.out.2.2.1]; exact Nat.le_refl _)) (by rw [HD.out.2.2.1]; kernel_rfl) HD.out.2.2.2.2.1 ?_
        rw [setCells_row (P := Tryd.prog) (ty := 23) (HN.out.2.1.farRow (fun e => HN.out.2.2.2.2.1.1 e.symm) _) (by rw [HD.out.2.2.1]; kernel_rfl) (by rw [HD.out.1, HD.out.2.2.1]) HD.out.2.2.2.2.1]
        refine hK.out _ _ (HS.out _ ((HN.out.2.2.1.farRow HN.out.2.2.2.2.1.2.1 _).farRow HN.out.2.2.2.2.1.2.2 _)) (fun hHeld => ?_)
        clear hK K9
        try simp only [Act.put, List.getElem_toArray, List.getElem_cons_succ, List.getElem_cons_zero, List.setIfInBounds_toArray, List.set_cons_zero, List.set_cons_succ]
        have hT := two_rows (d1 := d1) (d2 := d2) HN.out.2.2.2.1 HN.out.2.2.2.2.2.1 HN.out.2.2.2.2.2.2 HN.out.2.2.2.2.1.1 HN.out.1 HN.out.2.1
        refine wpAnyH_done (by kernel_rfl) ?_ _
        refine ⟨rfl, hK8 _ _ (Met.intro (hJ8 _ _ ?_))⟩
        (repeat apply Exists.intro)
        exact ⟨⟨_, _, rfl, rfl, hT⟩, rfl⟩
      · skip
        have hz := HZ.out
        go_simp
        refine hK.out _ _ (HS.out _ (HG.out.2.alloc _)) (fun hHeld => ?_)
        clear hK K9
        try simp only [Act.put, List.getElem_toArray, List.getElem_cons_succ, List.getElem_cons_zero, List.setIfInBounds_toArray, List.set_cons_zero, List.set_cons_succ]
        refine wpAnyH_ready (rs := [4]) (by kernel_rfl) (by simp) ?_
        refine (AllReadyH.cons (o := _) rfl (fun K9 hK => ?_) AllReadyH.nil)
        go_simp
        clear hz
        refine hK.out _ _ (HS.out _ ((HG.out.2.alloc _).alloc _)) (fun hHeld => ?_)
        clear hK K9
        try simp only [Act.put, List.getElem_toArray, List.getElem_cons_succ, List.getElem_cons_zero, List.setIfInBounds_toArray, List.set_cons_zero, List.set_cons_succ]
        have n1 : Blk ((V2.alloc (.cells zs 23)).alloc (.cells zs 23)) V2.heap.size 23 zs := (Blk.new V2 _ _).alloc _
        have n2 : Blk ((V2.alloc (.cells zs 23)).alloc (.cells zs 23)) (V2.heap.size + 1) 23 zs := by
          have h := Blk.new (V2.alloc (.cells zs 23)) 23 zs
          rwa [World.size_alloc] at h
        have gX : V2.grownBy ((V2.alloc (.cells zs 23)).alloc (.cells zs 23)) none := grown_trans (World.grownBy_alloc _ _ none) (World.grownBy_alloc _ _ none)
        have qX : Blk ((V2.alloc (.cells zs 23)).alloc (.cells zs 23)) q 24 cs := (HG.out.2.alloc _).alloc _
        obtain ⟨X, hX⟩ : ∃ X, (V2.alloc (.cells zs 23)).alloc (.cells zs 23) = X := ⟨_, rfl⟩
        obtain ⟨p, hp⟩ : ∃ p, V2.heap.size + 1 = p := ⟨_, rfl⟩
        obtain ⟨p', hp'⟩ : ∃ p', V2.heap.size = p' := ⟨_, rfl⟩
        try simp only [World.size_alloc]
        rw [hX] at n1 n2 gX qX hHeld ⊢
        rw [hp] at n2 ⊢
        rw [hp'] at n1 ⊢
        have hpq : p ≠ p' ∧ q ≠ p ∧ q ≠ p' := by have := HG.out.2.lt; omega
        have hwp : w.heap.size ≤ p ∧ w.heap.size ≤ p' := by have := HG.out.1.size; omega
        have b7 : Blk X p 23 zs := n2
        have b8 : Blk X p' 23 zs := n1
        have HN := Lib.hid (And.intro b7 (And.intro b8 (And.intro qX (And.intro (grown_trans HG.out.1 gX) (And.intro hpq hwp)))))
        clear n1 n2 gX qX hX hp hp' hpq hwp b7 b8
        refine wpAnyH_ready (rs := [6]) (by kernel_rfl) (by simp) ?_
        refine (AllReadyH.cons (o := _) rfl (fun K9 hK => ?_) AllReadyH.nil)
        refine ready_store_mid (by rfl) 23 _ _ rfl p 0 d1 rfl rfl (there_blk HN.out.1 (by rw [HD.out.1, HD.out.2.1]; exact Nat.le_refl _)) (by rw [HD.out.2.1]; kernel_rfl) HD.out.2.2.2.1 ?_
        rw [setCells_row (P := Tryd.prog) (ty := 23) HN.out.1 (by rw [HD.out.2.1]; kernel_rfl) (by rw [HD.out.1, HD.out.2.1]) HD.out.2.2.2.1]
        refine hK.out _ _ (HS.out _ (HN.out.2.2.1.farRow HN.out.2.2.2.2.1.2.1 _)) (fun hHeld => ?_)
        clear hK K9
        try simp only [Act.put, List.getElem_toArray, List.getElem_cons_succ, List.getElem_cons_zero, List.setIfInBounds_toArray, List.set_cons_zero, List.set_cons_succ]
        refine wpAnyH_ready (rs := [7]) (by kernel_rfl) (by simp) ?_
        refine (AllReadyH.cons (o := _) rfl (fun K9 hK => ?_) AllReadyH.nil)
        refine ready_store_mid (by rfl) 23 _ _ rfl p' 0 d2 rfl rfl (there_blk (HN.out.2.1.farRow (fun e => HN.out.2.2.2.2.1.1 e.symm) _) (by rw [HD.out.1, HD.out.2.2.1]; exact Nat.le_refl _)) (by rw [HD.out.2.2.1]; kernel_rfl) HD.out.2.2.2.2.1 ?_
        rw [setCells_row (P := Tryd.prog) (ty := 23) (HN.out.2.1.farRow (fun e => HN.out.2.2.2.2.1.1 e.symm) _) (by rw [HD.out.2.2.1]; kernel_rfl) (by rw [HD.out.1, HD.out.2.2.1]) HD.out.2.2.2.2.1]
        refine hK.out _ _ (HS.out _ ((HN.out.2.2.1.farRow HN.out.2.2.2.2.1.2.1 _).farRow HN.out.2.2.2.2.1.2.2 _)) (fun hHeld => ?_)
        clear hK K9
        try simp only [Act.put, List.getElem_toArray, List.getElem_cons_succ, List.getElem_cons_zero, List.setIfInBounds_toArray, List.set_cons_zero, List.set_cons_succ]
        have hT := two_rows (d1 := d1) (d2 := d2) HN.out.2.2.2.1 HN.out.2.2.2.2.2.1 HN.out.2.2.2.2.2.2 HN.out.2.2.2.2.1.1 HN.out.1 HN.out.2.1
        refine wpAnyH_done (by kernel_rfl) ?_ _
        refine ⟨rfl, hK8 _ _ (Met.intro (hJ8 _ _ ?_))⟩
        (repeat apply Exists.intro)
        exact ⟨⟨_, _, rfl, rfl, hT⟩, rfl⟩
  case rest =>
    obtain ⟨p7, p8, rfl, rfl, g2, c7, c8⟩ := hcut
    rename World => W2
    have H2 := Lib.hid (And.intro g2 (And.intro c7 c8))
    clear g2 c7 c8 HQ
    gi_step
    gi_wp2
    refine ⟨trivial, ?_⟩
    refine (callsIn_wide.2 (alive_is W2 (HX.out.1.grown H2.out.1 (by simp)) E ((HX.out.2.1.grown H2.out.1 (by simp)).more H2.out.1.size) (E 5) (E 6) (E 7) ((HX.out.2.2.2.1.grown H2.out.1 (by simp)).more H2.out.1.size) ((HX.out.2.2.2.2.1.grown H2.out.1 (by simp)).more H2.out.1.size) ((HX.out.2.2.2.2.2.1.grown H2.out.1 (by simp)).more H2.out.1.size))).mono ?_
    rintro e w3 ⟨rfl, k3⟩
    have H3 := Lib.hid (And.intro (grown_trans H2.out.1 k3) (And.intro (H2.out.2.1.grown k3 (by simp)) (H2.out.2.2.grown k3 (by simp))))
    clear k3
    by_cases h100 : 100 < n
    · have e1 : decide ((100 : Int) < (n : Int)) = true := by simp; omega
      gi_wp2
      first | exact ⟨_, results_tmp rfl _ _ _, rfl, H3.out.1⟩ | exact ⟨rfl, _, results_tmp rfl _ _ _, rfl, H3.out.1⟩ | (go_ret; exact ⟨rfl, H3.out.1⟩)
    have e1 : decide ((100 : Int) < (n : Int)) = false := by simp; omega
    have hn100 : n ≤ 100 := by omega
    clear h100
    gi_upto_region 6 with fail
    rename_i K8 hK8
    obtain ⟨K, hK⟩ : ∃ K : Nat, C.toNat = K := ⟨_, rfl⟩
    obtain ⟨M, hM⟩ : ∃ M : Nat, min n 31 = M := ⟨_, rfl⟩
    have hmx : max C 0 = (K : Int) := by omega
    have hmn : min (n : Int) 31 = (M : Int) := by omega
    have hMb : M ≤ n ∧ M ≤ 31 ∧ n ≤ c := ⟨by omega, by omega, HX.out.2.2.2.2.2.2.2.2.2⟩
    have hK63 : K < 9223372036854775808 := by omega
    have g4 := grown_drew H3.out.1
    obtain ⟨V3, hV3⟩ : ∃ V3, w3.drew = V3 := ⟨_, rfl⟩
    rw [hV3] at g4
    have hs1 : ∀ V, w.grownBy V none → Calls Tryd.prog 10 #[.int .i64 C, .slice A n c] V fun e w' => e = .returned (secV (slotL K l)) ∧ V.grownBy w' none := fun V hV => by
      have h := slot_is V (HX.out.1.grown hV (by simp)) C hC A n c l HX.out.2.2.2.2.2.2.2.1 (HX.out.2.2.2.2.2.2.2.2.1.grown hV (fun _ _ => by simp)) (by omega)
      rwa [hK] at h
    have hs2 : ∀ V, w.grownBy V none → Calls Tryd.prog 11 #[.int .i64 (K : Int), .slice A M c] V fun e w' => e = .returned (secV (slotL K l)) ∧ V.grownBy w' none := fun V hV => by
      have h := rslot_is V K (l.take 31) A M c hK63 (by rw [List.length_take, HX.out.2.2.2.2.2.2.2.1]; omega) (by rw [List.length_take]; omega) ((HX.out.2.2.2.2.2.2.2.2.1.grown hV (fun _ _ => by simp)).take 31)
      rwa [slotL_take] at h
    obtain ⟨es, hes⟩ : ∃ es, secV (slotL K l) = .agg es := ⟨_, rfl⟩
    have hez : es = arrV .u8 (slotL K l) := by injection hes with hes; exact hes.symm
    rw [hes] at hs1 hs2
    have HC := Lib.hid (And.intro g4 (And.intro hs1 (And.intro hs2 (And.intro (H3.out.2.1.drew) (H3.out.2.2.drew)))))
    rw [hV3] at HC
    have HEQ := Lib.hid (fun V : World => eq_secs V es (slotL K l) (slotL_len K l) hez)
    have HM := Lib.hid (And.intro hmx (And.intro hmn hMb))
    clear g4 hs1 hs2 hes hez hM hK
    refine wpIn_normal ?_
    refine wpIn_region_held_wide (S := fun V => True) (by kernel_rfl) (by kernel_rfl) (by rintro ⟨_, _, h, _⟩; cases h) trivial (fun hHeld => ?_)
    rw [hV3]
    refine wpAnyH_take (i := 0) (oi := _) (v := ?vc0) rfl (by kernel_rfl) (by kernel_rfl) (by kernel_rfl) (fun _ _ _ h => by cases h.1) (Or.inl ⟨by rfl, ?hyc0⟩) (by assumption) ?restc0
    case hyc0 => (intro V hSw; (try dsimp only at hSw); go_simp) <;> with_reducible rfl
    try simp only [Act.put, List.getElem_toArray, List.getElem_cons_succ, List.getElem_cons_zero, List.setIfInBounds_toArray, List.set_cons_zero, List.set_cons_succ]
    refine wpAnyH_take (i := 1) (oi := _) (v := ?vc1) rfl (by kernel_rfl) (by kernel_rfl) (by kernel_rfl) (fun _ _ _ h => by cases h.1) (Or.inl ⟨by rfl, ?hyc1⟩) (by assumption) ?restc1
    case hyc1 => (intro V hSw; (try dsimp only at hSw); go_simp) <;> with_reducible rfl
    try simp only [Act.put, List.getElem_toArray, List.getElem_cons_succ, List.getElem_cons_zero, List.setIfInBounds_toArray, List.set_cons_zero, List.set_cons_succ]
    refine wpAnyH_take (i := 3) (oi := _) (v := ?vc3) rfl (by kernel_rfl) (by kernel_rfl) (by kernel_rfl) (fun _ _ _ h => by cases h.1) (Or.inl ⟨by rfl, ?hyc3⟩) (by assumption) ?restc3
    case hyc3 => (intro V hSw; (try dsimp only at hSw); go_simp) <;> with_reducible rfl
    try simp only [Act.put, List.getElem_toArray, List.getElem_cons_succ, List.getElem_cons_zero, List.setIfInBounds_toArray, List.set_cons_zero, List.set_cons_succ]
    refine wpAnyH_take (i := 4) (oi := _) (v := .int .i64 (K : Int)) rfl (by kernel_rfl) (by kernel_rfl) (by kernel_rfl) (fun _ _ _ h => by cases h.1) (Or.inl ⟨by rfl, ?hyc4⟩) (by assumption) ?restc4
    case hyc4 => intro V hSw; have hmx := HM.out.1; go_simp
    try simp only [Act.put, List.getElem_toArray, List.getElem_cons_succ, List.getElem_cons_zero, List.setIfInBounds_toArray, List.set_cons_zero, List.set_cons_succ]
    refine wpAnyH_take (i := 5) (oi := _) (v := ?vc5) rfl (by kernel_rfl) (by kernel_rfl) (by kernel_rfl) (fun _ _ _ h => by cases h.1) (Or.inl ⟨by rfl, ?hyc5⟩) (by assumption) ?restc5
    case hyc5 => (intro V hSw; (try dsimp only at hSw); go_simp) <;> with_reducible rfl
    try simp only [Act.put, List.getElem_toArray, List.getElem_cons_succ, List.getElem_cons_zero, List.setIfInBounds_toArray, List.set_cons_zero, List.set_cons_succ]
    refine wpAnyH_take (i := 6) (oi := _) (v := ?vc6) rfl (by kernel_rfl) (by kernel_rfl) (by kernel_rfl) (fun _ _ _ h => by cases h.1) (Or.inl ⟨by rfl, ?hyc6⟩) (by assumption) ?restc6
    case hyc6 => (intro V hSw; (try dsimp only at hSw); go_simp) <;> with_reducible rfl
    try simp only [Act.put, List.getElem_toArray, List.getElem_cons_succ, List.getElem_cons_zero, List.setIfInBounds_toArray, List.set_cons_zero, List.set_cons_succ]
    refine wpAnyH_take (i := 7) (oi := _) (v := ?vc7) rfl (by kernel_rfl) (by kernel_rfl) (by kernel_rfl) (fun _ _ _ h => by cases h.1) (Or.inl ⟨by rfl, ?hyc7⟩) (by assumption) ?restc7
    case hyc7 => (intro V hSw; (try dsimp only at hSw); go_simp) <;> with_reducible rfl
    try simp only [Act.put, List.getElem_toArray, List.getElem_cons_succ, List.getElem_cons_zero, List.setIfInBounds_toArray, List.set_cons_zero, List.set_cons_succ]
    refine wpAnyH_take (i := 8) (oi := _) (v := .int .i64 (M : Int)) rfl (by kernel_rfl) (by kernel_rfl) (by kernel_rfl) (fun _ _ _ h => by cases h.1) (Or.inl ⟨by rfl, ?hyc8⟩) (by assumption) ?restc8
    case hyc8 => intro V hSw; have hmn := HM.out.2.1; go_simp
    try simp only [Act.put, List.getElem_toArray, List.getElem_cons_succ, List.getElem_cons_zero, List.setIfInBounds_toArray, List.set_cons_zero, List.set_cons_succ]
    have hb9 : 0 ≤ (M : Int) ∧ (M : Int) ≤ (c : Int) ∧ M ≤ c := by have := HM.out.2.2; omega
    refine wpAnyH_take (i := 9) (oi := _) (v := ?vc9) rfl (by kernel_rfl) (by kernel_rfl) (by kernel_rfl) (fun _ _ _ h => by cases h.1) (Or.inl ⟨by rfl, ?hyc9⟩) (by assumption) ?restc9
    case hyc9 => (intro V hSw; (try dsimp only at hSw); go_simp) <;> with_reducible rfl
    try simp only [Act.put, List.getElem_toArray, List.getElem_cons_succ, List.getElem_cons_zero, List.setIfInBounds_toArray, List.set_cons_zero, List.set_cons_succ]
    refine wpAnyH_ready (rs := [2]) (by kernel_rfl) (by simp) ?_
    refine (AllReadyH.cons (o := _) rfl (fun K9 hK => ?_) AllReadyH.nil)
    go_simp
    refine (HC.out.2.1 V3 HC.out.1).mono ?_
    rintro e w4 ⟨rfl, g4⟩
    have H4 := Lib.hid (And.intro (grown_trans HC.out.1 g4) (And.intro (HC.out.2.2.2.1.grown g4 (by simp)) (HC.out.2.2.2.2.grown g4 (by simp))))
    clear g4
    (try go_wp2_with fail)
    refine hK.out _ _ trivial (fun hHeld => ?_)
    clear hK K9
    try simp only [Act.put, List.getElem_toArray, List.getElem_cons_succ, List.getElem_cons_zero, List.setIfInBounds_toArray, List.set_cons_zero, List.set_cons_succ]
    refine wpAnyH_ready (rs := [10]) (by kernel_rfl) (by simp) ?_
    refine (AllReadyH.cons (o := _) rfl (fun K9 hK => ?_) AllReadyH.nil)
    go_simp
    refine (HC.out.2.2.1 w4 H4.out.1).mono ?_
    rintro e w5 ⟨rfl, g5⟩
    have H5 := Lib.hid (And.intro (grown_trans H4.out.1 g5) (And.intro (H4.out.2.1.grown g5 (by simp)) (H4.out.2.2.grown g5 (by simp))))
    clear g5
    (try go_wp2_with fail)
    refine hK.out _ _ trivial (fun hHeld => ?_)
    clear hK K9
    try simp only [Act.put, List.getElem_toArray, List.getElem_cons_succ, List.getElem_cons_zero, List.setIfInBounds_toArray, List.set_cons_zero, List.set_cons_succ]
    refine wpAnyH_take (i := 11) (oi := _) (v := .bool false) rfl (by kernel_rfl) (by kernel_rfl) (by kernel_rfl) (fun _ _ _ h => by cases h.1) (Or.inl ⟨by rfl, ?hyc11⟩) (by assumption) ?restc11
    case hyc11 => intro V hSw; have heq := HEQ.out V; go_simp
    try simp only [Act.put, List.getElem_toArray, List.getElem_cons_succ, List.getElem_cons_zero, List.setIfInBounds_toArray, List.set_cons_zero, List.set_cons_succ]
    refine wpAnyH_done (by kernel_rfl) ?_ _
    refine ⟨rfl, hK8 _ _ ?_⟩
    gi_wp2
    refine ⟨trivial, ?_⟩
    refine (callsIn_wide.2 (dsk_new w w5 (Kept.of_grown (F := fun j => w.heap.size ≤ j) H5.out.1 (fun _ e => by cases e)) 3 (by omega) (E 0) HX.out.2.2.1)).mono ?_
    rintro e w6 ⟨g6, d, b, m, rfl, hd, hdl⟩
    have hpl : (p7 ≠ d ∧ p7 ≠ b ∧ p7 ≠ m) ∧ (p8 ≠ d ∧ p8 ≠ b ∧ p8 ≠ m) := by have := H5.out.2.1.lt; have := H5.out.2.2.lt; omega
    have H6 := Lib.hid (And.intro hd hpl)
    have HL1 := Lib.hid (H5.out.2.1.grown g6 (by simp))
    have HL2 := Lib.hid (H5.out.2.2.grown g6 (by simp))
    clear g6 hd hpl hdl
    gi_wp2_with (first
      | (refine wpListIn_load_row_w (by rfl) 23 _ rfl p7 rfl 23 d1 (0, 0) _ HL1.out Tryd.underlying23 rfl (by rw [HD.out.2.1]; kernel_rfl) ?_)
      | gi_in)
    refine ⟨trivial, ?_⟩
    refine (callsIn_wide.2 (dsk_write0 H6.out.1 HX.out.2.2.1 HX.out.2.2.2.1 1 (intsB b1) (by rw [intsB_length]; exact HB.out.1) (show wE (newS 3) 1 = 0 from rfl) (show wS (newS 3) 1 (intsB b1) = wrS (newS 3) 1 (intsB b1) from rfl) d1 HDD.out.1)).mono ?_
    rintro e w7 ⟨rfl, hd7, ht7⟩
    have H7 := Lib.hid hd7
    have HL1 := Lib.hid (HL1.out.kept ht7 (show ¬ (p7 = d ∨ p7 = b ∨ p7 = m) by have := H6.out.2.1; omega))
    have HL2 := Lib.hid (HL2.out.kept ht7 (show ¬ (p8 = d ∨ p8 = b ∨ p8 = m) by have := H6.out.2.2; omega))
    clear hd7 ht7
    gi_wp2_with (first
      | (refine wpListIn_load_row_w (by rfl) 23 _ rfl p8 rfl 23 d2 (0, 0) _ HL2.out Tryd.underlying23 rfl (by rw [HD.out.2.2.1]; kernel_rfl) ?_)
      | gi_in)
    refine ⟨trivial, ?_⟩
    refine (callsIn_wide.2 (dsk_write0 H7.out HX.out.2.2.1 HX.out.2.2.2.1 2 (intsB b2) (by rw [intsB_length]; exact HB.out.2.1) (show wE (wrS (newS 3) 1 (intsB b1)) 2 = 0 from rfl) (show wS (wrS (newS 3) 1 (intsB b1)) 2 (intsB b2) = twoZ b1 b2 from rfl) d2 HDD.out.2)).mono ?_
    rintro e w8 ⟨rfl, hd8, ht8⟩
    have HL1 := Lib.hid (HL1.out.kept ht8 (show ¬ (p7 = d ∨ p7 = b ∨ p7 = m) by have := H6.out.2.1; omega))
    have HL2 := Lib.hid (HL2.out.kept ht8 (show ¬ (p8 = d ∨ p8 = b ∨ p8 = m) by have := H6.out.2.2; omega))
    have hop := open_is w w8 d b m (twoZ b1 b2) hd8 HX.out.1 E HX.out.2.1 (E 5) (E 6) HX.out.2.2.2.1 HX.out.2.2.2.2.1 1 (twoB b1 b2) (fun _ _ k hk => ⟨by unfold twoB; split; exact HB.out.1; exact HB.out.2.1, twoZ_rows hk⟩)
    have HOP := Lib.hid (And.intro hop hd8)
    clear hop hd8 ht8
    gi_wp2
    refine ⟨trivial, ?_⟩
    refine (callsIn_wide.2 HOP.out.1).mono ?_
    rintro e w9 ⟨g9, hor⟩
    have HL1 := Lib.hid (HL1.out.grown g9 (by simp))
    have HL2 := Lib.hid (HL2.out.grown g9 (by simp))
    have hr := ropen_is w9 b1 b2 HB.out.1 HB.out.2.1
    rw [HB.out.2.2.1, HB.out.2.2.2] at hr
    have hsel : openR b1 b2 = selK (twoB b1 b2) 2 := open_sel (bb := twoB b1 b2) HB.out.1 HB.out.2.1
    rw [hsel] at hr
    have HR := Lib.hid hr
    have H9 := Lib.hid (HOP.out.2.grown g9)
    clear hr g9 hsel
    rcases hor with ⟨hbad, _⟩ | ⟨_, ⟨hoff, _⟩ | ⟨_, ⟨hn9, rfl⟩ | ⟨c9, x9, hc9, s9, rfl, hs9, _⟩⟩⟩
    · exact absurd ⟨by omega, by simp [twoZ, wrS, newS]⟩ hbad
    · cases hoff
    · have HN9 := Lib.hid hn9
      clear hn9
      gi_wp2_with (first
        | (refine wpListIn_load_row_w (by rfl) 23 _ rfl p7 rfl 23 d1 (0, 0) _ HL1.out Tryd.underlying23 rfl (by rw [HD.out.2.1]; kernel_rfl) ?_)
        | (refine wpListIn_load_row_w (by rfl) 23 _ rfl p8 rfl 23 d2 (0, 0) _ HL2.out Tryd.underlying23 rfl (by rw [HD.out.2.2.1]; kernel_rfl) ?_)
        | gi_in)
      refine ⟨trivial, ?_⟩
      refine (callsIn_wide.2 HR.out).mono ?_
      rintro e w10 ⟨g10, ⟨_, rfl⟩ | ⟨c', x', hc', _⟩⟩
      · have H10 := Lib.hid (H9.out.grown g10)
        clear g10
        gi_wp2
        refine ⟨trivial, ?_⟩
        refine (callsIn_wide.2 (num_err w10 w.heap.size E 6 (by omega) (HX.out.2.2.2.2.2.2.1.below H10.out.below (Nat.le_refl _)))).mono ?_
        rintro e w11 ⟨rfl, g11⟩
        have H11 := Lib.hid (H10.out.grown g11)
        clear g11
        gi_wp2
        first | exact ⟨_, results_tmp rfl _ _ _, rfl, H11.out.grownNone⟩ | exact ⟨rfl, _, results_tmp rfl _ _ _, rfl, H11.out.grownNone⟩ | (go_ret; exact ⟨rfl, H11.out.grownNone⟩)
      · rw [HN9.out] at hc'; cases hc'
    · have HN9 := Lib.hid (And.intro hc9 hs9)
      clear hc9 hs9
      gi_wp2_with (first
        | (refine wpListIn_load_row_w (by rfl) 23 _ rfl p7 rfl 23 d1 (0, 0) _ HL1.out Tryd.underlying23 rfl (by rw [HD.out.2.1]; kernel_rfl) ?_)
        | (refine wpListIn_load_row_w (by rfl) 23 _ rfl p8 rfl 23 d2 (0, 0) _ HL2.out Tryd.underlying23 rfl (by rw [HD.out.2.2.1]; kernel_rfl) ?_)
        | gi_in)
      refine ⟨trivial, ?_⟩
      refine (callsIn_wide.2 HR.out).mono ?_
      rintro e w10 ⟨g10, ⟨hno, _⟩ | ⟨c', x', hc', A', k', rfl, hb', _⟩⟩
      · rw [HN9.out.1] at hno; cases hno
      · rw [HN9.out.1] at hc'
        injection hc' with hc'
        injection hc' with hc1 hc2
        subst hc1 hc2
        have hx31 : x9.length ≤ 1000000 := by have := sel_len HN9.out.1; omega
        have g11 := grown_drew g10
        have H10 := Lib.hid (And.intro (H9.out.grown g11) (And.intro (HN9.out.2.grown g11) (hb'.grown (grown_drew (World.grownBy.refl w10 none)) (fun _ _ => by simp))))
        obtain ⟨lv, hlv⟩ : ∃ lv : ByteArray, (⟨x9.toArray⟩ : ByteArray) = lv := ⟨_, rfl⟩
        have HLV := Lib.hid hlv
        clear g10 g11 hlv hb'
        gi_upto_region 15 with fail
        obtain ⟨V4, hV4⟩ : ∃ V4, w10.drew = V4 := ⟨_, rfl⟩
        rw [hV4] at H10
        rename_i K9_ hK9_
        refine wpIn_normal ?_
        refine wpIn_region_held_wide (S := fun V => Sem.run Tryd.prog (convert 22 9 (.slice A' x9.length k')) V = .ok (.string lv) V) (by kernel_rfl) (by kernel_rfl) (by rintro ⟨_, _, h, _⟩; cases h) (by rw [hV4, ← HLV.out]; exact toString_any H10.out.2.2 rfl) (fun hHeld => ?_)
        rw [hV4] at hHeld ⊢
        refine wpAnyH_take (i := 0) (oi := _) (v := ?vd0) rfl (by kernel_rfl) (by kernel_rfl) (by kernel_rfl) (fun _ _ _ h => by cases h.1) (Or.inl ⟨by rfl, ?hyd0⟩) (by assumption) ?restd0
        case hyd0 => (intro V hSw; (try dsimp only at hSw); go_simp) <;> with_reducible rfl
        try simp only [Act.put, List.getElem_toArray, List.getElem_cons_succ, List.getElem_cons_zero, List.setIfInBounds_toArray, List.set_cons_zero, List.set_cons_succ]
        refine wpAnyH_take (i := 1) (oi := _) (v := ?vd1) rfl (by kernel_rfl) (by kernel_rfl) (by kernel_rfl) (fun _ _ _ h => by cases h.1) (Or.inl ⟨by rfl, ?hyd1⟩) (by assumption) ?restd1
        case hyd1 => (intro V hSw; (try dsimp only at hSw); go_simp) <;> with_reducible rfl
        try simp only [Act.put, List.getElem_toArray, List.getElem_cons_succ, List.getElem_cons_zero, List.setIfInBounds_toArray, List.set_cons_zero, List.set_cons_succ]
        refine wpAnyH_take (i := 2) (oi := _) (v := ?vd2) rfl (by kernel_rfl) (by kernel_rfl) (by kernel_rfl) (fun _ _ _ h => by cases h.1) (Or.inl ⟨by rfl, ?hyd2⟩) (by assumption) ?restd2
        case hyd2 => (intro V hSw; (try dsimp only at hSw); go_simp) <;> with_reducible rfl
        try simp only [Act.put, List.getElem_toArray, List.getElem_cons_succ, List.getElem_cons_zero, List.setIfInBounds_toArray, List.set_cons_zero, List.set_cons_succ]
        refine wpAnyH_take (i := 3) (oi := _) (v := ?vd3) rfl (by kernel_rfl) (by kernel_rfl) (by kernel_rfl) (fun _ _ _ h => by cases h.1) (Or.inl ⟨by rfl, ?hyd3⟩) (by assumption) ?restd3
        case hyd3 => (intro V hSw; (try dsimp only at hSw); go_simp) <;> with_reducible rfl
        try simp only [Act.put, List.getElem_toArray, List.getElem_cons_succ, List.getElem_cons_zero, List.setIfInBounds_toArray, List.set_cons_zero, List.set_cons_succ]
        refine wpAnyH_take (i := 4) (oi := _) (v := ?vd4) rfl (by kernel_rfl) (by kernel_rfl) (by kernel_rfl) (fun _ _ _ h => by cases h.1) (Or.inl ⟨by rfl, ?hyd4⟩) (by assumption) ?restd4
        case hyd4 => (intro V hSw; (try dsimp only at hSw); go_simp) <;> with_reducible rfl
        try simp only [Act.put, List.getElem_toArray, List.getElem_cons_succ, List.getElem_cons_zero, List.setIfInBounds_toArray, List.set_cons_zero, List.set_cons_succ]
        refine wpAnyH_take (i := 5) (oi := _) (v := ?vd5) rfl (by kernel_rfl) (by kernel_rfl) (by kernel_rfl) (fun _ _ _ h => by cases h.1) (Or.inl ⟨by rfl, ?hyd5⟩) (by assumption) ?restd5
        case hyd5 => (intro V hSw; (try dsimp only at hSw); go_simp) <;> with_reducible rfl
        try simp only [Act.put, List.getElem_toArray, List.getElem_cons_succ, List.getElem_cons_zero, List.setIfInBounds_toArray, List.set_cons_zero, List.set_cons_succ]
        refine wpAnyH_take (i := 6) (oi := _) (v := ?vd6) rfl (by kernel_rfl) (by kernel_rfl) (by kernel_rfl) (fun _ _ _ h => by cases h.1) (Or.inl ⟨by rfl, ?hyd6⟩) (by assumption) ?restd6
        case hyd6 => (intro V hSw; (try dsimp only at hSw); go_simp) <;> with_reducible rfl
        try simp only [Act.put, List.getElem_toArray, List.getElem_cons_succ, List.getElem_cons_zero, List.setIfInBounds_toArray, List.set_cons_zero, List.set_cons_succ]
        refine wpAnyH_take (i := 7) (oi := _) (v := ?vd7) rfl (by kernel_rfl) (by kernel_rfl) (by kernel_rfl) (fun _ _ _ h => by cases h.1) (Or.inl ⟨by rfl, ?hyd7⟩) (by assumption) ?restd7
        case hyd7 => (intro V hSw; (try dsimp only at hSw); go_simp) <;> with_reducible rfl
        try simp only [Act.put, List.getElem_toArray, List.getElem_cons_succ, List.getElem_cons_zero, List.setIfInBounds_toArray, List.set_cons_zero, List.set_cons_succ]
        refine wpAnyH_take (i := 9) (oi := _) (v := ?vd9) rfl (by kernel_rfl) (by kernel_rfl) (by kernel_rfl) (fun _ _ _ h => by cases h.1) (Or.inl ⟨by rfl, ?hyd9⟩) (by assumption) ?restd9
        case hyd9 => (intro V hSw; (try dsimp only at hSw); go_simp) <;> with_reducible rfl
        try simp only [Act.put, List.getElem_toArray, List.getElem_cons_succ, List.getElem_cons_zero, List.setIfInBounds_toArray, List.set_cons_zero, List.set_cons_succ]
        refine wpAnyH_ready (rs := [8]) (by kernel_rfl) (by simp) ?_
        refine (AllReadyH.cons (o := _) rfl (fun K9 hK => ?_) AllReadyH.nil)
        go_simp
        refine (count_is H10.out.2.1).mono ?_
        rintro e w12 ⟨rfl, hw12⟩
        obtain rfl : V4 = w12 := hw12.symm
        (try go_wp2_with fail)
        refine hK.out _ _ (by rw [← HLV.out]; exact toString_any H10.out.2.2 rfl) (fun hHeld => ?_)
        clear hK K9
        try simp only [Act.put, List.getElem_toArray, List.getElem_cons_succ, List.getElem_cons_zero, List.setIfInBounds_toArray, List.set_cons_zero, List.set_cons_succ]
        refine wpAnyH_take (i := 10) (oi := _) (v := ?vd10) rfl (by kernel_rfl) (by kernel_rfl) (by kernel_rfl) (fun _ _ _ h => by cases h.1) (Or.inl ⟨by rfl, ?hyd10⟩) (by assumption) ?restd10
        case hyd10 => (intro V hSw; (try dsimp only at hSw); go_simp) <;> with_reducible rfl
        try simp only [Act.put, List.getElem_toArray, List.getElem_cons_succ, List.getElem_cons_zero, List.setIfInBounds_toArray, List.set_cons_zero, List.set_cons_succ]
        refine wpAnyH_take (i := 11) (oi := _) (v := ?vd11) rfl (by kernel_rfl) (by kernel_rfl) (by kernel_rfl) (fun _ _ _ h => by cases h.1) (Or.inl ⟨by rfl, ?hyd11⟩) (by assumption) ?restd11
        case hyd11 => (intro V hSw; (try dsimp only at hSw); go_simp) <;> with_reducible rfl
        try simp only [Act.put, List.getElem_toArray, List.getElem_cons_succ, List.getElem_cons_zero, List.setIfInBounds_toArray, List.set_cons_zero, List.set_cons_succ]
        refine wpAnyH_take (i := 12) (oi := _) (v := ?vd12) rfl (by kernel_rfl) (by kernel_rfl) (by kernel_rfl) (fun _ _ _ h => by cases h.1) (Or.inl ⟨by rfl, ?hyd12⟩) (by assumption) ?restd12
        case hyd12 => (intro V hSw; (try dsimp only at hSw); go_simp) <;> with_reducible rfl
        try simp only [Act.put, List.getElem_toArray, List.getElem_cons_succ, List.getElem_cons_zero, List.setIfInBounds_toArray, List.set_cons_zero, List.set_cons_succ]
        refine wpAnyH_take (i := 13) (oi := _) (v := ?vd13) rfl (by kernel_rfl) (by kernel_rfl) (by kernel_rfl) (fun _ _ _ h => by cases h.1) (Or.inl ⟨by rfl, ?hyd13⟩) (by assumption) ?restd13
        case hyd13 => (intro V hSw; (try dsimp only at hSw); go_simp) <;> with_reducible rfl
        try simp only [Act.put, List.getElem_toArray, List.getElem_cons_succ, List.getElem_cons_zero, List.setIfInBounds_toArray, List.set_cons_zero, List.set_cons_succ]
        refine wpAnyH_take (i := 16) (oi := _) (v := ?vd16) rfl (by kernel_rfl) (by kernel_rfl) (by kernel_rfl) (fun _ _ _ h => by cases h.1) (Or.inl ⟨by rfl, ?hyd16⟩) (by assumption) ?restd16
        case hyd16 => (intro V hSw; (try dsimp only at hSw); go_simp) <;> with_reducible rfl
        try simp only [Act.put, List.getElem_toArray, List.getElem_cons_succ, List.getElem_cons_zero, List.setIfInBounds_toArray, List.set_cons_zero, List.set_cons_succ]
        refine wpAnyH_take (i := 17) (oi := _) (v := ?vd17) rfl (by kernel_rfl) (by kernel_rfl) (by kernel_rfl) (fun _ _ _ h => by cases h.1) (Or.inl ⟨by rfl, ?hyd17⟩) (by assumption) ?restd17
        case hyd17 => (intro V hSw; (try dsimp only at hSw); go_simp) <;> with_reducible rfl
        try simp only [Act.put, List.getElem_toArray, List.getElem_cons_succ, List.getElem_cons_zero, List.setIfInBounds_toArray, List.set_cons_zero, List.set_cons_succ]
        refine wpAnyH_ready (rs := [14]) (by kernel_rfl) (by simp) ?_
        refine (AllReadyH.cons (o := _) rfl (fun K9 hK => ?_) AllReadyH.nil)
        go_simp
        refine (record_is H10.out.2.1 hx31).mono ?_
        rintro e w12 ⟨A12, c12, rfl, hb12, g12⟩
        have ht := toString_any (n := x9.length) (c := c12) hb12 rfl
        rw [HLV.out] at ht
        have H12 := Lib.hid (And.intro (H10.out.1.grown g12) (H10.out.2.2.grown g12 (fun _ _ => by simp)))
        clear g12 hb12
        (try go_wp2_with fail)
        refine hK.out _ _ (by rw [← HLV.out]; exact toString_any H12.out.2 rfl) (fun hHeld => ?_)
        clear hK K9
        try simp only [Act.put, List.getElem_toArray, List.getElem_cons_succ, List.getElem_cons_zero, List.setIfInBounds_toArray, List.set_cons_zero, List.set_cons_succ]
        refine wpAnyH_ready (rs := [15]) (by kernel_rfl) (by simp) ?_
        refine (AllReadyH.cons (o := _) rfl (fun K9 hK => ?_) AllReadyH.nil)
        go_simp
        refine hK.out _ _ (by rw [← HLV.out]; exact toString_any H12.out.2 rfl) (fun hHeld => ?_)
        clear hK K9
        try simp only [Act.put, List.getElem_toArray, List.getElem_cons_succ, List.getElem_cons_zero, List.setIfInBounds_toArray, List.set_cons_zero, List.set_cons_succ]
        refine wpAnyH_take (i := 18) (oi := _) (v := ?vd18) rfl (by kernel_rfl) (by kernel_rfl) (by kernel_rfl) (fun _ _ _ h => by cases h.1) (Or.inl ⟨by rfl, ?hyd18⟩) (by assumption) ?restd18
        case hyd18 => (intro V hSw; (try dsimp only at hSw); go_simp) <;> with_reducible rfl
        try simp only [Act.put, List.getElem_toArray, List.getElem_cons_succ, List.getElem_cons_zero, List.setIfInBounds_toArray, List.set_cons_zero, List.set_cons_succ]
        refine wpAnyH_take (i := 19) (oi := _) (v := ?vd19) rfl (by kernel_rfl) (by kernel_rfl) (by kernel_rfl) (fun _ _ _ h => by cases h.1) (Or.inl ⟨by rfl, ?hyd19⟩) (by assumption) ?restd19
        case hyd19 => (intro V hSw; (try dsimp only at hSw); go_simp) <;> with_reducible rfl
        try simp only [Act.put, List.getElem_toArray, List.getElem_cons_succ, List.getElem_cons_zero, List.setIfInBounds_toArray, List.set_cons_zero, List.set_cons_succ]
        refine wpAnyH_take (i := 20) (oi := _) (v := ?vd20) rfl (by kernel_rfl) (by kernel_rfl) (by kernel_rfl) (fun _ _ _ h => by cases h.1) (Or.inl ⟨by rfl, ?hyd20⟩) (by assumption) ?restd20
        case hyd20 => (intro V hSw; (try dsimp only at hSw); go_simp) <;> with_reducible rfl
        try simp only [Act.put, List.getElem_toArray, List.getElem_cons_succ, List.getElem_cons_zero, List.setIfInBounds_toArray, List.set_cons_zero, List.set_cons_succ]
        refine wpAnyH_done (by kernel_rfl) ?_ _
        refine ⟨rfl, hK9_ _ _ ?_⟩
        gi_wp2
        first | exact ⟨_, results_tmp rfl _ _ _, rfl, H12.out.1.grownNone⟩ | exact ⟨rfl, _, results_tmp rfl _ _ _, rfl, H12.out.1.grownNone⟩ | (go_ret; exact ⟨rfl, H12.out.1.grownNone⟩)
end Go.Proofs.YtilfapibfadbfaaDoor
