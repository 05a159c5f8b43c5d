/- Dg, Dg2, Dg3, DgRef, ChF -/
import Derived.Test.YtigafnbofmiknaaGreatDoorW20a
import Derived.OwnWalk
import Derived.Laws.MakeOwn
import Derived.Laws.OwnMore
import Derived.Test.YtigafnbofmiknaaGreatDoorW20h
import Derived.Test.YtigafnbofmiknaaGreatDoorW20g
import Derived.Deep.MidRow
import Derived.Test.YtigafnbofmiknaaGreatDoorW20i
namespace Go.Proofs.YtigafnbofmiknaaGreatDoor
set_option maxRecDepth 100000
set_option maxHeartbeats 10000000
open Go.RowKit
section
def dig4 (n : Int) : List Int := [n / 64 % 4, n / 16 % 4, n / 4 % 4, n % 4]
def digsS : List Int -> List Int
 | [] => []
 | a :: d => dig4 a ++ digsS d
def sumD (l : List Int) : Int := l.foldl (fun s x => s + (3 - x)) 0
def uh (d : List Int) : List Int := digsS d ++ dig4 (sumD (digsS d))
theorem foldl_sum (l : List Int) : ∀ s, l.foldl (fun s x => s + (3 - x)) s = s + sumD l := by
 induction l with
 | nil => intro s; simp [sumD]
 | cons a l ih => intro s; simp only [sumD, List.foldl_cons]; rw [ih, ih (0 + (3 - a))]; omega
theorem za8 (a b : List Int) : sumD (a ++ b) = sumD a + sumD b := by
 rw [sumD, List.foldl_append, foldl_sum]; rfl
theorem sumD_dig4 (n : Int) : sumD (dig4 n) = 12 - (n / 64 % 4 + n / 16 % 4 + n / 4 % 4 + n % 4) := by
 simp only [sumD, dig4, List.foldl_cons, List.foldl_nil]; omega
theorem digsS_length (d : List Int) : (digsS d).length = 4 * d.length := by
 induction d with
 | nil => rfl
 | cons a d ih => simp only [digsS, List.length_append, ih, List.length_cons]; show 4 + _ = _; omega
theorem digitsS_length (d : List Int) : (uh d).length = 4 * d.length + 4 := by
 rw [uh, List.length_append, digsS_length]; rfl
theorem digsS_range (d : List Int) : ∀ z ∈ digsS d, 0 <= z /\ z <= 3 := by
 induction d with
 | nil => intro z hz; cases hz
 | cons a d ih =>
  intro z hz
  rcases List.mem_append.1 hz with h | h
  · simp only [dig4, List.mem_cons, List.not_mem_nil, or_false] at h; omega
  · exact ih z h
theorem sumD_range (d : List Int) : 0 <= sumD (digsS d) /\ sumD (digsS d) <= 12 * d.length := by
 induction d with
 | nil => simp [digsS, sumD]
 | cons a d ih =>
  rw [digsS, za8, sumD_dig4, List.length_cons]
  have e0 : 0 <= a / 64 % 4 /\ a / 64 % 4 < 4 := by omega
  have e1 : 0 <= a / 16 % 4 /\ a / 16 % 4 < 4 := by omega
  have e2 : 0 <= a / 4 % 4 /\ a / 4 % 4 < 4 := by omega
  have e3 : 0 <= a % 4 /\ a % 4 < 4 := by omega
  generalize a / 64 % 4 = a0 at *
  generalize a / 16 % 4 = a1 at *
  generalize a / 4 % 4 = a2 at *
  generalize a % 4 = a3 at *
  omega
theorem digitsS_range (d : List Int) : ∀ z ∈ uh d, 0 <= z /\ z <= 3 := by
 intro z hz
 rcases List.mem_append.1 hz with h | h
 · exact digsS_range d z h
 · simp only [dig4, List.mem_cons, List.not_mem_nil, or_false] at h; omega
end
section
theorem zdb (n : Int) : bits .and .i64 n 3 = n % 4 := by
 have h3 : (BitVec.ofInt 64 3).toNat = 2 ^ 2 - 1 := by decide
 have key : (BitVec.ofInt 64 n &&& BitVec.ofInt 64 3).toNat = (n % ((2 ^ 64 : Nat) : Int)).toNat % 2 ^ 2 := by
  rw [BitVec.toNat_and, BitVec.toNat_ofInt, h3, Nat.and_two_pow_sub_one_eq_mod]
 show IntKind.i64.wrap ((BitVec.ofInt 64 n &&& BitVec.ofInt 64 3).toNat : Nat) = n % 4
 rw [key, IntKind.wrap_i64]
 omega
def four (n : Int) (k : Nat) : Array Value := arrV .i64 ((dig4 n).take k ++ List.replicate (4 - k) 0)
theorem zbf (n : Int) : (dig4 n).length = 4 := rfl
theorem four_size (n : Int) (k : Nat) (h : k <= 4) : (four n k).size = 4 := by
 rw [four, zf, List.length_append, List.length_take, List.length_replicate, zbf]; omega
theorem four_all (n : Int) : four n 4 = arrV .i64 (dig4 n) := by
 rw [four, List.take_of_length_le (by rw [zbf]; omega)]; simp
theorem base4_is (w : World) (n : Int) (hn : 0 <= n /\ n < 1000) : Calls Tryz.prog 145 #[.int .i64 n] w fun e w' => e = .returned (.agg (arrV .i64 (dig4 n))) /\ w.grownBy w' none := by
 have HN := hQ_ hn
 clear hn
 go_enter Tryz.func145, Tryz.ntmps145
 go_wp2_with fail
 have hB1 := Blk.new (w.alloc (.cells (four n 0) 229)) 229 (four n 0)
 have hB0 := (Blk.new w 229 (four n 0)).alloc (.cells (four n 0) 229)
 have hk := za (World.grownBy_alloc w (.cells (four n 0) 229) none) (World.grownBy_alloc _ (.cells (four n 0) 229) none)
 rw [World.size_alloc] at hB1
 rw [show (#[Value.int .i64 0, .int .i64 0, .int .i64 0, .int .i64 0] : Array Value) = four n 0 by simp [four, arrV, dig4]]
 generalize (w.alloc (.cells (four n 0) 229)).alloc (.cells (four n 0) 229) = w1 at *
 go_loopw [5] (fun i wr => ∃ k : Nat, k <= 4 /\ i = .int .i64 (k : Int) /\ Blk wr (w.heap.size + 1) 229 (four n k) /\ Blk wr w.heap.size 229 (four n 0) /\ w.grownBy wr none) (fun i _ => 4 - (intOf i).toNat)
 case atStart => exact ⟨0, by omega, rfl, hB1, hB0, hk⟩
 case round =>
  obtain ⟨k, hk, hi, hB, hB0, hK⟩ := hrel
  subst hi
  by_cases hlt : k < 4
  · have c0 := hB.cell k
    have f0 := hB.frozen k
    have HB := hQ_ hB
    have HB0 := hQ_ hB0
    have HK := hQ_ hK
    have hcases : k = 0 \/ k = 1 \/ k = 2 \/ k = 3 := by omega
    clear hB hB0 hK hlt hk
    rcases hcases with rfl | rfl | rfl | rfl
    · simp [four, arrV, dig4] at c0
      have hv := zdb (n / 64)
      go_wp2_with fail
      go_roundw
      case rel =>
       refine ⟨1, by omega, rfl, ?_, HB0.out.far (p := ⟨w.heap.size + 1, 0, none⟩) (by dsimp only; omega) _, ye HK.out (p := ⟨w.heap.size + 1, 0, none⟩) (.inl (by dsimp only; omega)) _⟩
       have := HB.out.set 0 (.int .i64 (n / 64 % 4))
       rw [show (four n 0).setIfInBounds 0 (.int .i64 (n / 64 % 4)) = four n 1 by simp [four, arrV, dig4]] at this
       first | exact this | (rw [hv]; exact this)
      case measure => simp [intOf]
    · simp [four, arrV, dig4] at c0
      have hv := zdb (n / 16)
      go_wp2_with fail
      go_roundw
      case rel =>
       refine ⟨2, by omega, rfl, ?_, HB0.out.far (p := ⟨w.heap.size + 1, 1, none⟩) (by dsimp only; omega) _, ye HK.out (p := ⟨w.heap.size + 1, 1, none⟩) (.inl (by dsimp only; omega)) _⟩
       have := HB.out.set 1 (.int .i64 (n / 16 % 4))
       rw [show (four n 1).setIfInBounds 1 (.int .i64 (n / 16 % 4)) = four n 2 by simp [four, arrV, dig4]] at this
       first | exact this | (rw [hv]; exact this)
      case measure => simp [intOf]
    · simp [four, arrV, dig4] at c0
      have hv := zdb (n / 4)
      go_wp2_with fail
      go_roundw
      case rel =>
       refine ⟨3, by omega, rfl, ?_, HB0.out.far (p := ⟨w.heap.size + 1, 2, none⟩) (by dsimp only; omega) _, ye HK.out (p := ⟨w.heap.size + 1, 2, none⟩) (.inl (by dsimp only; omega)) _⟩
       have := HB.out.set 2 (.int .i64 (n / 4 % 4))
       rw [show (four n 2).setIfInBounds 2 (.int .i64 (n / 4 % 4)) = four n 3 by simp [four, arrV, dig4]] at this
       first | exact this | (rw [hv]; exact this)
      case measure => simp [intOf]
    · simp [four, arrV, dig4] at c0
      have hv := zdb (n)
      go_wp2_with fail
      go_roundw
      case rel =>
       refine ⟨4, by omega, rfl, ?_, HB0.out.far (p := ⟨w.heap.size + 1, 3, none⟩) (by dsimp only; omega) _, ye HK.out (p := ⟨w.heap.size + 1, 3, none⟩) (.inl (by dsimp only; omega)) _⟩
       have := HB.out.set 3 (.int .i64 (n % 4))
       rw [show (four n 3).setIfInBounds 3 (.int .i64 (n % 4)) = four n 4 by simp [four, arrV, dig4]] at this
       first | exact this | (rw [hv]; exact this)
      case measure => simp [intOf]
  · obtain rfl : k = 4 := by omega
    obtain ⟨cs, hcs⟩ : ∃ cs, cs = four n 4 := ⟨_, rfl⟩
    rw [<- hcs] at hB
    have hsz : cs.size = 4 := by rw [hcs]; exact four_size n 4 (Nat.le_refl _)
    have HI := hQ_ (show (Tryz.prog.info? 229).map (·.size) = some cs.size by rw [hsz]; kernel_rfl)
    have HS := hQ_ (aQ hsz (aQ (show (cs.all fun x => x.oneCell') = true by rw [hcs, four_all]; simp [arrV, Value.oneCell']) hcs))
    have HB := hQ_ hB
    have HB0 := hQ_ hB0
    have HK := hQ_ hK
    clear hsz hcs hB hB0 hK hlt hk
    go_wp2_with (first
     | (refine wpList_load_row rfl 229 _ rfl (w.heap.size + 1) rfl 229 cs (0, 0) _ HB.out Tryz.underlying229 rfl HI.out ?_)
     | (refine wpList_store_row rfl 229 _ _ rfl w.heap.size cs rfl rfl 229 _ HB0.out HI.out (by rw [HS.out.1]; exact four_size n 0 (by omega)) HS.out.2.1 ?_))
    refine bodyPost_ret (z5 rfl _ _ _ ⟨w.heap.size, 0, none⟩ (.agg cs) rfl (run_loadVar_row _ w.heap.size 229 229 cs (0, 0) _ (HB0.out.row cs) Tryz.underlying229 rfl HI.out)) rfl ?_
    exact ⟨by rw [HS.out.2.2, four_all], zc HK.out (.inl (Nat.le_refl _)) cs⟩
end
section
theorem zb6 : (Tryz.prog.info? 3).map (fun i => (i.zero, i.size, i.bytes)) = some (some (.int .i64 0), 1, 8) := by kernel_rfl
theorem digsS_take (d : List Int) (k : Nat) (h : k < d.length) : digsS (d.take (k + 1)) = digsS (d.take k) ++ dig4 (d.getD k 0) := by
 rw [List.take_add_one, List.getElem?_eq_getElem h]
 have happ : ∀ a b : List Int, digsS (a ++ b) = digsS a ++ digsS b := by
  intro a b
  induction a with
  | nil => rfl
  | cons x a ih => simp only [List.cons_append, digsS, ih, List.append_assoc]
 rw [happ]
 simp [digsS, List.getD, List.getElem?_eq_getElem h]
theorem take_push4 (l : List Int) (k : Nat) (h : k < l.length) : l.take (k + 1) = l.take k ++ [l.getD k 0] := by
 rw [List.take_add_one, List.getD, List.getElem?_eq_getElem h]; rfl
theorem index16 (w : World) {I : Int} {cs : Array Value} {v : Value} (hb : 0 <= I /\ I < 16) (hv : cs[I.toNat]? = some v) : Sem.run Tryz.prog (Instr.index 24 (.agg cs) (.int .i64 I)) w = .ok v w :=
 uu (n := 16) Tryz.underlying24 (by kernel_rfl) (by kernel_rfl) hb hv
theorem index4 (w : World) {I : Int} {cs : Array Value} {v : Value} (hb : 0 <= I /\ I < 4) (hv : cs[I.toNat]? = some v) : Sem.run Tryz.prog (Instr.index 229 (.agg cs) (.int .i64 I)) w = .ok v w :=
 uu (n := 4) Tryz.underlying229 (by kernel_rfl) (by kernel_rfl) hb hv
theorem arr_slice_all {P : Program} {w : World} {b n : Nat} {t e : TypeId} (hu : P.underlying t = some (.array n e)) (hs : (P.info? e).map (·.size) = some 1) :
    Sem.run P (Instr.sliceAt t (.pointer (some ⟨b, 0, none⟩)) none none none) w = .ok (.slice (some ⟨b, 0, none⟩) n n) w := by
 cases hi : P.info? e with
 | none => simp [hi] at hs
 | some ei =>
  have h4 := run_sliceAt_array_all (P := P) (w := w) t ⟨b, 0, none⟩ (by unfold Program.arrayLen Program.elem; simp [hu])
  rw [h4]
  simp [Program.arrayLen, Program.elem, hu, slicedAt, sizeOf, typeInfo, hi, Addr.add]
theorem own_some {w : World} {base : Nat} {e : TypeId} {n : Nat} {v : Value} {L : List Int} (h : w.ownsRow base e 1 v n (L.map (Value.int .i64))) (hn : 0 < n) : ∃ g cap, v = .slice (some ⟨g, 0, none⟩) n cap /\ base <= g /\ ∀ j, j < n -> w.cell? ⟨g, j, none⟩ = some (.int .i64 (L.getD j 0)) := by
 have hl : L.length = n := by have := h.1; simpa using this
 rcases h.2 with ⟨_, h0⟩ | ⟨g, cap, cur, rfl, hb, hg, hnc, _, hsz, htake⟩
 · omega
 · refine ⟨g, cap, rfl, hb, fun j hj => ?_⟩
   rw [Joins.cell_of_block hg j, <- Array.getElem?_toList]
   have e1 : (cur.toList.take (n * 1))[j]? = cur.toList[j]? := by rw [List.getElem?_take, if_pos (by omega)]
   rw [<- e1, htake]
   simp [List.getD, List.getElem?_eq_getElem (show j < L.length by omega)]
theorem wpList_append_one {P : Program} {w0 : World} {ops : Array Oper} {rest : List Oper} {o : Oper} {a : Act} {Q : Exit -> Act -> World -> Prop} (hgd : o.guard = none) (s x : Operand) (t : TypeId)
    (ho : o.op = .call { callee := .builtin .append, args := #[s, x], argTypes := #[t, t] }) (base : Nat) (e e0 : TypeId) (i : TypeInfo) (ht : P.underlying t = some (.slice e)) (hi : P.info? e = some i) (hz : i.zero = some (.int .i64 0)) (hsize : i.size = 1) (hby : i.bytes = 8)
    (v : Value) (n : Nat) (xs : List Value) (hs : a.eval s = v) (hown : w0.ownsRow base e 1 v n xs) (y : Int) (hx : a.eval x = .slice (some ⟨w0.heap.size, 0, none⟩) 1 1) (hn : n <= 1000) (hbase : base <= w0.heap.size)
    (h : ∀ v' w', w'.ownsRow base e 1 v' (n + 1) (xs ++ [.int .i64 y]) -> w0.grownBy w' v.ownBlock -> wpList P ops Q rest (a.put o.dst v') w') : wpList P ops Q (o :: rest) a (w0.alloc (.cells #[.int .i64 y] e0)) := by
 refine wpList_append_own _ hgd s x t ho base e i (.int .i64 0) 1 8 ht hi hz hsize hby rfl (by omega) v n xs hs (hown.alloc _) ⟨w0.heap.size, 0, none⟩ 1 1 [.int .i64 y] hx rfl (fun j u hu => ?_) (by simp [Value.oneCell']) (by simp only [maxLen]; omega) (by omega) (by rw [World.size_alloc]; omega) (fun v' w' h1 h2 _ => h v' w' h1 (za (World.grownBy_alloc w0 _ _) h2))
 have : j = 0 := by
  have := (List.getElem?_eq_some_iff.1 hu).1
  simp at this
  omega
 subst this
 have h1 := (Blk.new w0 e0 #[.int .i64 y]).cell 0
 rw [show (⟨w0.heap.size, 0, none⟩ : Addr).add 0 = ⟨w0.heap.size, 0, none⟩ by simp [Addr.add], h1]
 simpa using hu
theorem digits_is (w : World) (d : List Int) (hd : d.length = 16) (hr : ∀ z ∈ d, 0 <= z /\ z < 256) : Calls Tryz.prog 134 #[.agg (arrV .u8 d)] w fun e w' =>
    ∃ g cap, e = .returned (.slice (some ⟨g, 0, none⟩) 68 cap) /\ (∀ j, j < 68 -> w'.cell? ⟨g, j, none⟩ = some (.int .i64 ((uh d).getD j 0))) /\ w.heap.size <= g /\ w.grownBy w' none := by
 obtain ⟨ds, hds⟩ : ∃ ds, ds = arrV .u8 d := ⟨_, rfl⟩
 have hsz : ds.size = 16 := by rw [hds, zf, hd]
 have HI := hQ_ (show (Tryz.prog.info? 24).map (·.size) = some ds.size by rw [hsz]; kernel_rfl)
 have HD := hQ_ (aQ hds (aQ hd hr))
 obtain ⟨i0, hi0, hz0, hz1, hz2⟩ := info_parts zb6
 have HI0 := hQ_ (aQ hi0 (aQ hz0 (aQ hz1 hz2)))
 rw [<- hds]
 have hB0 := Blk.new w 24 ds
 have hG0 := World.grownBy_alloc w (.cells ds 24) none
 obtain ⟨w1, hmk, hown, hg1⟩ := run_make_own (P := Tryz.prog) (w.alloc (.cells ds 24)) w.heap.size 102 3 i0 (.int .i64 0) 1 Tryz.underlying102 hi0 hz0 hz1 .i64 .i64 68 (by rw [hz2]; decide) (by decide) (by simp)
 have HB1 := hQ_ (hB0.grown hg1 (by simp))
 have HG1 := hQ_ (za hG0 hg1)
 rw [World.size_alloc, show ((68 : Nat) : Int) = 68 from rfl] at hmk
 rw [World.size_alloc] at hown
 have HOWN := hQ_ hown
 clear hds hsz hd hr hi0 hz0 hz1 hz2 hB0 hG0 hown hg1
 go_enter Tryz.func134, Tryz.ntmps134
 go_wp2_with (refine wpList_load_row rfl 24 _ rfl w.heap.size rfl 24 ds (0, 0) _ HB1.out Tryz.underlying24 rfl HI.out ?_)
 go_loopw [12, 3, 4] (fun i v z wr => ∃ k : Nat, k <= 16 /\ i = .int .i64 (k : Int) /\ wr.ownsRow w.heap.size 3 1 v (4 * k) ((digsS (d.take k)).map (Value.int .i64)) /\ z = .int .i64 (sumD (digsS (d.take k))) /\ w.grownBy wr none) (fun i _ _ _ => 16 - (intOf i).toNat)
 case atStart => exact ⟨0, by omega, rfl, HOWN.out, rfl, HG1.out⟩
 case round =>
  obtain ⟨k, hk, hi, hown, hz, hK⟩ := hrel
  obtain ⟨I, hI⟩ : ∃ I : Int, I = (k : Int) := ⟨_, rfl⟩
  rw [<- hI] at hi
  obtain ⟨S, hS⟩ : ∃ S : Int, S = sumD (digsS (d.take k)) := ⟨_, rfl⟩
  rw [<- hS] at hz
  subst hi hz
  have hSr := sumD_range (d.take k)
  rw [<- hS, List.length_take, HD.out.2.1, Nat.min_eq_left hk] at hSr
  by_cases hlt : k < 16
  · have d1 : decide (I < 16) = true := by simp; omega
    have hkI : I.toNat = k := by omega
    obtain ⟨c, hc⟩ : ∃ c, c = d.getD k 0 := ⟨_, rfl⟩
    have hcr : 0 <= c /\ c < 256 := by
     rw [hc, List.getD, List.getElem?_eq_getElem (by rw [HD.out.2.1]; exact hlt)]
     exact HD.out.2.2 _ (List.getElem_mem _)
    have kx := index16 wr (I := I) (cs := ds) (v := .int .u8 c) ⟨by omega, by omega⟩ (by rw [HD.out.1, hkI, hc]; exact yr (by rw [HD.out.2.1]; exact hlt))
    have hnext := digsS_take d k (by rw [HD.out.2.1]; exact hlt)
    rw [<- hc] at hnext
    have hI16 : 0 <= I /\ I < 16 := by omega
    have HK := hQ_ (aQ hI (aQ hlt (aQ hnext (aQ hS (aQ hSr (aQ hcr hI16))))))
    have HOW := hQ_ hown
    have HG := hQ_ hK
    clear hI hlt hnext hS hSr hkI hc hown hK hk hI16
    go_wp2_with fail
    refine (base4_is wr c (by have := HK.out; omega)).mono ?_
    rintro e w2 ⟨rfl, hk2⟩
    obtain ⟨c4, hc4⟩ : ∃ c4, c4 = arrV .i64 (dig4 c) := ⟨_, rfl⟩
    rw [<- hc4]
    have HC4 := hQ_ hc4
    have HO2 := hQ_ (vt HOW.out hk2)
    have HG2 := hQ_ (za HG.out hk2)
    clear hc4 hk2 kx
    go_wp2_with fail
    go_loopw [18, 3, 4] (fun j v z wr => ∃ m : Nat, m <= 4 /\ j = .int .i64 (m : Int) /\ wr.ownsRow w.heap.size 3 1 v (4 * k + m) ((digsS (d.take k) ++ (dig4 c).take m).map (Value.int .i64)) /\ z = .int .i64 (S + sumD ((dig4 c).take m)) /\ w.grownBy wr none) (fun j _ _ _ => 4 - (intOf j).toNat)
    case atStart => exact ⟨0, by omega, rfl, by simpa using HO2.out, by simp [sumD], HG2.out⟩
    case round =>
     obtain ⟨m, hm, hj, hown, hz, hK⟩ := hrel
     obtain ⟨J, hJ⟩ : ∃ J : Int, J = (m : Int) := ⟨_, rfl⟩
     rw [<- hJ] at hj
     obtain ⟨T, hT⟩ : ∃ T : Int, T = S + sumD ((dig4 c).take m) := ⟨_, rfl⟩
     rw [<- hT] at hz
     subst hj hz
     by_cases hlt : m < 4
     · have d2 : decide (J < 4) = true := by simp; omega
       have hmJ : J.toNat = m := by omega
       obtain ⟨x, hx⟩ : ∃ x, x = (dig4 c).getD m 0 := ⟨_, rfl⟩
       have hxr : 0 <= x /\ x <= 3 := by
        have hcs : m = 0 \/ m = 1 \/ m = 2 \/ m = 3 := by omega
        rw [hx]
        rcases hcs with rfl | rfl | rfl | rfl <;> simp [dig4] <;> omega
       have kx := index4 wr (I := J) (cs := c4) (v := .int .i64 x) ⟨by omega, by omega⟩ (by rw [HC4.out, hmJ, hx]; exact yr (by rw [zbf]; exact hlt))
       have hpush := take_push4 (dig4 c) m (by rw [zbf]; exact hlt)
       rw [<- hx] at hpush
       have hTr : 0 <= T /\ T <= 300 := by
        have h1 := HK.out.2.2.2.2.1
        have hcs : m = 0 \/ m = 1 \/ m = 2 \/ m = 3 := by omega
        rw [hT]
        have hh := HK.out.2.1
        rcases hcs with rfl | rfl | rfl | rfl <;> simp [dig4, sumD] <;> omega
       have HJ := hQ_ (aQ hJ (aQ hlt (aQ hpush (aQ hT hm))))
       have HO := hQ_ hown
       have HG3 := hQ_ hK
       have hJ4 : 0 <= J /\ J < 4 := by omega
       clear hJ hlt hpush hT hm hown hK hx hmJ
       go_wp2_with (at_builtin; refine wpList_append_one rfl _ _ 102 rfl w.heap.size 3 _ i0 Tryz.underlying102 HI0.out.1 HI0.out.2.1 HI0.out.2.2.1 HI0.out.2.2.2 _ _ _ rfl HO.out x rfl (by have := HJ.out.2.1; have := HK.out.2.1; omega) HG3.out.size ?_; intro v' w4 hown4 hgrow; have HO4 := hQ_ hown4; have HG4 := hQ_ (yh HG3.out hgrow HO.out (Nat.le_refl _)); clear hown4 hgrow)
       go_wp2_with fail
       go_roundw
       case rel =>
        obtain ⟨hJ, hlt, hpush, hT, hm⟩ := HJ.out
        refine ⟨m + 1, by omega, by rw [hJ]; rfl, ?_, ?_, HG4.out⟩
        · rw [hpush, <- List.append_assoc, List.map_append]; exact HO4.out
        · rw [hpush, za8, <- Int.add_assoc, <- hT]; simp [sumD]
       case measure => obtain ⟨hJ, hlt, hpush, hT, hm⟩ := HJ.out; simp [intOf]; omega
     · have d2 : decide (J < 4) = false := by simp; omega
       obtain rfl : m = 4 := by omega
       have ht4 : (dig4 c).take 4 = dig4 c := rfl
       rw [ht4] at hown hT
       clear ht4
       have HO := hQ_ hown
       have HG3 := hQ_ hK
       have HT := hQ_ hT
       have hI16 := HK.out.2.2.2.2.2.2
       clear hown hK hT hlt hm hJ
       go_wp2_with fail
       go_roundw
       case rel =>
        obtain ⟨hI, hlt, hnext, hS, hSr, hcr, _⟩ := HK.out
        refine ⟨k + 1, by omega, by rw [hI]; rfl, ?_, ?_, HG3.out⟩
        · rw [hnext, show 4 * (k + 1) = 4 * k + 4 by omega]; exact HO.out
        · rw [hnext, za8, <- hS, <- HT.out]
       case measure => obtain ⟨hI, hlt, _⟩ := HK.out; simp [intOf]; omega
  · have d1 : decide (I < 16) = false := by simp; omega
    obtain rfl : k = 16 := by omega
    rw [List.take_of_length_le (by rw [HD.out.2.1]; exact Nat.le_refl _)] at hown hS
    have HOW := hQ_ hown
    have HG := hQ_ hK
    have HS := hQ_ (aQ hS hSr)
    clear hI hlt hown hK hS hSr hk
    go_wp2_with fail
    refine (base4_is wr S (by have := HS.out; omega)).mono ?_
    rintro e w2 ⟨rfl, hk2⟩
    obtain ⟨c4, hc4⟩ : ∃ c4, c4 = arrV .i64 (dig4 S) := ⟨_, rfl⟩
    rw [<- hc4]
    have hsz4 : c4.size = 4 := by rw [hc4]; rfl
    have HI4 := hQ_ (show (Tryz.prog.info? 229).map (·.size) = some c4.size by rw [hsz4]; kernel_rfl)
    have HS4 := hQ_ (aQ hsz4 (show (c4.all fun x => x.oneCell') = true by rw [hc4]; simp [arrV, Value.oneCell']))
    have HB4 := hQ_ (fun o => Blk.row (Blk.new w2 229 o) c4)
    have HC4 := hQ_ hc4
    have HO2 := hQ_ (fun o => vt HOW.out (zc (za hk2 (World.grownBy_alloc w2 o none)) (g := w2.heap.size) (.inl hk2.size) c4))
    have HG2 := hQ_ (fun o => zc (za (za HG.out hk2) (World.grownBy_alloc w2 o none)) (g := w2.heap.size) (.inl (za HG.out hk2).size) c4)
    have HZ := hQ_ (show w.heap.size <= w2.heap.size from (za HG.out hk2).size)
    have hsa : ∀ w b, Sem.run Tryz.prog (Instr.sliceAt 229 (.pointer (some ⟨b, 0, none⟩)) none none none) w = .ok (.slice (some ⟨b, 0, none⟩) 4 4) w := fun w b => arr_slice_all Tryz.underlying229 (by kernel_rfl)
    clear hk2 hsz4 hc4
    go_wp2_with (first
     | (refine wpList_store_row rfl 229 _ _ rfl w2.heap.size c4 rfl rfl 229 _ (heap_alloc_new w2 _) HI4.out (by rw [HS4.out.1]; simp) HS4.out.2 ?_)
     | (at_builtin; refine wpList_append_own _ rfl _ _ 102 rfl w.heap.size 3 i0 (.int .i64 0) 1 8 Tryz.underlying102 HI0.out.1 HI0.out.2.1 HI0.out.2.2.1 HI0.out.2.2.2 rfl (by decide) _ _ _ rfl (HO2.out _) ⟨w2.heap.size, 0, none⟩ 4 4 c4.toList rfl (show c4.toList.length = 4 * 1 by rw [Array.length_toList]; exact HS4.out.1) (fun j u hu => by rw [yj, (HB4.out _).cell j, <- Array.getElem?_toList]; exact hu) (by rw [HC4.out]; simp [Value.oneCell']) (by simp only [maxLen]; omega) (by omega) (by rw [setRow_size, World.size_alloc]; have := HZ.out; omega) ?_; intro v' w4 hown4 hgrow _))
    have hfin : w4.ownsRow w.heap.size 3 1 v' 68 ((uh d).map (Value.int .i64)) := by
     rw [uh, <- HS.out.1, List.map_append]
     rw [HC4.out] at hown4
     exact hown4
    obtain ⟨g, cap, rfl, hg, hcell⟩ := own_some hfin (by omega)
    have hG4 := yh (HG2.out _) hgrow (HO2.out _) (Nat.le_refl _)
    go_ret
    exact ⟨g, cap, rfl, hcell, hg, hG4⟩
end
section
theorem y9 {P : Program} {w0 : World} {ops : Array Oper} {rest : List Oper} {o : Oper} {a : Act} {Q : Exit -> Act -> World -> Prop} (hgd : o.guard = none) (s x : Operand) (t : TypeId)
    (ho : o.op = .call { callee := .builtin .append, args := #[s, x], argTypes := #[t, t] }) (base : Nat) (e e0 : TypeId) (i : TypeInfo) (ht : P.underlying t = some (.slice e)) (hi : P.info? e = some i) (hz : i.zero = some (.int .i64 0)) (hsize : i.size = 1) (hby : i.bytes = 8)
    (v : Value) (n : Nat) (xs : List Value) (hs : a.eval s = v) (hown : w0.ownsRow base e 1 v n xs) (y : Int) (hx : a.eval x = .slice (some ⟨w0.heap.size, 0, none⟩) 1 1) (hn : n <= 1000) (hbase : base <= w0.heap.size)
    (h : ∀ v' w', w'.ownsRow base e 1 v' (n + 1) (xs ++ [.int .i64 y]) -> w0.grownBy w' v.ownBlock -> (v'.ownBlock = v.ownBlock \/ v'.ownBlock = some (w0.heap.size + 1)) -> wpList P ops Q rest (a.put o.dst v') w') : wpList P ops Q (o :: rest) a (w0.alloc (.cells #[.int .i64 y] e0)) := by
 refine wpList_append_own_at _ hgd s x t ho base e i (.int .i64 0) 1 8 ht hi hz hsize hby rfl (by omega) v n xs hs (hown.alloc _) ⟨w0.heap.size, 0, none⟩ 1 1 [.int .i64 y] hx rfl (fun j u hu => ?_) (by simp [Value.oneCell']) (by simp only [maxLen]; omega) (by omega) (by rw [World.size_alloc]; omega) (fun v' w' h1 h2 _ h4 => h v' w' h1 (za (World.grownBy_alloc w0 _ _) h2) (by rw [World.size_alloc] at h4; exact h4))
 have : j = 0 := by
  have := (List.getElem?_eq_some_iff.1 hu).1
  simp at this
  omega
 subst this
 have h1 := (Blk.new w0 e0 #[.int .i64 y]).cell 0
 rw [yj, h1]
 simpa using hu
def units : List Int := [64, 16, 4, 1]
theorem rdigits_is (w : World) (d : List Int) (hd : d.length = 16) (hr : ∀ z ∈ d, 0 <= z /\ z < 256) : Calls Tryz.prog 101 #[.agg (arrV .u8 d)] w fun e w' =>
    ∃ g cap, e = .returned (.slice (some ⟨g, 0, none⟩) 68 cap) /\ (∀ j, j < 68 -> w'.cell? ⟨g, j, none⟩ = some (.int .i64 ((uh d).getD j 0))) /\ w.heap.size <= g /\ w.grownBy w' none := by
 obtain ⟨ds, hds⟩ : ∃ ds, ds = arrV .u8 d := ⟨_, rfl⟩
 have hsz : ds.size = 16 := by rw [hds, zf, hd]
 have HI := hQ_ (show (Tryz.prog.info? 24).map (·.size) = some ds.size by rw [hsz]; kernel_rfl)
 have HD := hQ_ (aQ hds (aQ hd hr))
 obtain ⟨i0, hi0, hz0, hz1, hz2⟩ := info_parts zb6
 have HI0 := hQ_ (aQ hi0 (aQ hz0 (aQ hz1 hz2)))
 rw [<- hds]
 have hown := World.ownsRow_lit (base := w.heap.size) (e := 3) (size := 1) (w.alloc (.cells ds 24)) #[] 0 (by rw [World.size_alloc]; omega) (by decide) rfl
 have HB1 := hQ_ ((Blk.new w 24 ds).alloc (.cells #[] 3))
 have HG1 := hQ_ (za (World.grownBy_alloc w (.cells ds 24) none) (World.grownBy_alloc _ (.cells #[] 3) none))
 rw [World.size_alloc] at hown
 have HOWN := hQ_ hown
 clear hds hsz hd hr hi0 hz0 hz1 hz2 hown
 go_enter Tryz.func101, Tryz.ntmps101
 go_wp2_with (refine wpList_load_row rfl 24 _ rfl w.heap.size rfl 24 ds (0, 0) _ HB1.out Tryz.underlying24 rfl HI.out ?_)
 generalize (w.alloc (.cells ds 24)).alloc (.cells #[] 3) = w1 at *
 go_loopw [13, 3, 4] (fun i v z wr => ∃ k : Nat, k <= 16 /\ i = .int .i64 (k : Int) /\ wr.ownsRow w.heap.size 3 1 v (4 * k) ((digsS (d.take k)).map (Value.int .i64)) /\ z = .int .i64 (sumD (digsS (d.take k))) /\ w.grownBy wr none) (fun i _ _ _ => 16 - (intOf i).toNat)
 case atStart => exact ⟨0, by omega, rfl, HOWN.out, rfl, HG1.out⟩
 case round =>
  obtain ⟨k, hk, hi, hown, hz, hK⟩ := hrel
  obtain ⟨I, hI⟩ : ∃ I : Int, I = (k : Int) := ⟨_, rfl⟩
  rw [<- hI] at hi
  obtain ⟨S, hS⟩ : ∃ S : Int, S = sumD (digsS (d.take k)) := ⟨_, rfl⟩
  rw [<- hS] at hz
  subst hi hz
  have hSr := sumD_range (d.take k)
  rw [<- hS, List.length_take, HD.out.2.1, Nat.min_eq_left hk] at hSr
  by_cases hlt : k < 16
  · have d1 : decide (I < 16) = true := by simp; omega
    have hkI : I.toNat = k := by omega
    obtain ⟨c, hc⟩ : ∃ c, c = d.getD k 0 := ⟨_, rfl⟩
    have hcr : 0 <= c /\ c < 256 := by
     rw [hc, List.getD, List.getElem?_eq_getElem (by rw [HD.out.2.1]; exact hlt)]
     exact HD.out.2.2 _ (List.getElem_mem _)
    have kx := index16 wr (I := I) (cs := ds) (v := .int .u8 c) ⟨by omega, by omega⟩ (by rw [HD.out.1, hkI, hc]; exact yr (by rw [HD.out.2.1]; exact hlt))
    have hnext := digsS_take d k (by rw [HD.out.2.1]; exact hlt)
    rw [<- hc] at hnext
    have hI16 : 0 <= I /\ I < 16 := by omega
    have HK := hQ_ (aQ hI (aQ hlt (aQ hnext (aQ hS (aQ hSr (aQ hcr hI16))))))
    have HOW := hQ_ hown
    have HG := hQ_ hK
    clear hI hlt hnext hS hSr hkI hc hown hK hk hI16
    go_wp2_with fail
    have hU := Blk.new wr 3 (arrV .i64 units)
    have hgU := World.grownBy_alloc wr (.cells (arrV .i64 units) 3) none
    rw [show wr.alloc (.cells #[.int .i64 64, .int .i64 16, .int .i64 4, .int .i64 1] 3) = wr.alloc (.cells (arrV .i64 units) 3) from rfl]
    generalize wr.alloc (.cells (arrV .i64 units) 3) = w2 at *
    have HU := hQ_ hU
    have HO2 := hQ_ (vt HOW.out hgU)
    have HG2 := hQ_ (za HG.out hgU)
    have HLW := hQ_ hU.lt
    obtain ⟨gu, hgu⟩ : ∃ gu, gu = wr.heap.size := ⟨_, rfl⟩
    have HGU := hQ_ (show wr.heap.size <= gu by rw [hgu]; exact Nat.le_refl _)
    rw [<- hgu] at HU HLW ⊢
    clear hU hgU kx hgu
    have HOLT := hQ_ (show gu < w2.heap.size from HLW.out)
    have HNE := hQ_ (show ∀ g', u3.ownBlock = some g' -> g' ≠ gu from fun g' h => by have := (HOW.out.lt g' h).2; have := HGU.out; omega)
    go_loopw [20, 3, 4] (fun j v z wr => ∃ m : Nat, m <= 4 /\ j = .int .i64 (m : Int) /\ wr.ownsRow w.heap.size 3 1 v (4 * k + m) ((digsS (d.take k) ++ (dig4 c).take m).map (Value.int .i64)) /\ z = .int .i64 (S + sumD ((dig4 c).take m)) /\ w.grownBy wr none /\ (∀ g', v.ownBlock = some g' -> g' ≠ gu) /\ wr.cell? ⟨gu, 0, none⟩ = some (.int .i64 64) /\ wr.cell? ⟨gu, 1, none⟩ = some (.int .i64 16) /\ wr.cell? ⟨gu, 2, none⟩ = some (.int .i64 4) /\ wr.cell? ⟨gu, 3, none⟩ = some (.int .i64 1)) (fun j _ _ _ => 4 - (intOf j).toNat)
    case atStart => exact ⟨0, by omega, rfl, by simpa using HO2.out, by simp [sumD], HG2.out, HNE.out, HU.out.cell 0, HU.out.cell 1, HU.out.cell 2, HU.out.cell 3⟩
    case round =>
     obtain ⟨m, hm, hj, hown, hz, hK, hne, c0, c1, c2, c3⟩ := hrel
     by_cases hlt : m < 4
     · have hcs : m = 0 \/ m = 1 \/ m = 2 \/ m = 3 := by omega
       clear hlt hm
       have hcr := HK.out.2.2.2.2.2.1
       have hSb := HK.out.2.2.2.2.1
       have hkb := HK.out.2.1
       have r0 : 0 <= c / 64 % 4 /\ c / 64 % 4 <= 3 := by omega
       have r1 : 0 <= c / 16 % 4 /\ c / 16 % 4 <= 3 := by omega
       have r2 : 0 <= c / 4 % 4 /\ c / 4 % 4 <= 3 := by omega
       have r3 : 0 <= c % 4 /\ c % 4 <= 3 := by omega
       rcases hcs with rfl | rfl | rfl | rfl
       · obtain ⟨T, hT⟩ : ∃ T : Int, T = S + sumD ((dig4 c).take 0) := ⟨_, rfl⟩
         rw [<- hT] at hz
         subst hj hz
         have hTr : 0 <= T /\ T <= 300 := by rw [hT]; simp [dig4, sumD]; omega
         have HO := hQ_ hown
         have HG3 := hQ_ hK
         have HNe := hQ_ hne
         have HT := hQ_ hT
         clear hown hK hne hT
         go_wp2_with (at_builtin; refine y9 rfl _ _ 102 rfl w.heap.size 3 _ i0 Tryz.underlying102 HI0.out.1 HI0.out.2.1 HI0.out.2.2.1 HI0.out.2.2.2 _ _ _ rfl HO.out _ rfl (by omega) HG3.out.size ?_; intro v' w4 hown4 hgrow hat; have HO4 := hQ_ hown4; have HG4 := hQ_ (yh HG3.out hgrow HO.out (Nat.le_refl _)); have HC4 := hQ_ (fun i x (h : wr.cell? ⟨gu, i, none⟩ = some x) => hgrow.cell h (by intro e; exact HNe.out gu e.symm rfl)); have HN4 := hQ_ (show ∀ g', v'.ownBlock = some g' -> g' ≠ gu from fun g' h => by (rcases hat with e | e); (exact HNe.out g' (e ▸ h)); (have := Option.some.inj (e.symm.trans h); have := World.block_lt_of_cell? wr _ c0; dsimp only at this; omega)); have HCS := hQ_ (aQ c0 (aQ c1 (aQ c2 c3))); clear hown4 hgrow hat c0 c1 c2 c3)
         go_wp2_with fail
         go_roundw
         case rel =>
          have e : (digsS (d.take k) ++ (dig4 c).take 1).map (Value.int .i64) = (digsS (d.take k) ++ (dig4 c).take 0).map (Value.int .i64) ++ [.int .i64 (c / 64 % 4)] := by simp [dig4]
          refine ⟨1, by omega, rfl, by rw [e]; exact HO4.out, congrArg _ (by rw [HT.out]; simp [dig4, sumD] <;> omega), HG4.out, HN4.out, HC4.out _ _ HCS.out.1, HC4.out _ _ HCS.out.2.1, HC4.out _ _ HCS.out.2.2.1, HC4.out _ _ HCS.out.2.2.2⟩
         case measure => simp [intOf]
       · obtain ⟨T, hT⟩ : ∃ T : Int, T = S + sumD ((dig4 c).take 1) := ⟨_, rfl⟩
         rw [<- hT] at hz
         subst hj hz
         have hTr : 0 <= T /\ T <= 300 := by rw [hT]; simp [dig4, sumD]; omega
         have HO := hQ_ hown
         have HG3 := hQ_ hK
         have HNe := hQ_ hne
         have HT := hQ_ hT
         clear hown hK hne hT
         go_wp2_with (at_builtin; refine y9 rfl _ _ 102 rfl w.heap.size 3 _ i0 Tryz.underlying102 HI0.out.1 HI0.out.2.1 HI0.out.2.2.1 HI0.out.2.2.2 _ _ _ rfl HO.out _ rfl (by omega) HG3.out.size ?_; intro v' w4 hown4 hgrow hat; have HO4 := hQ_ hown4; have HG4 := hQ_ (yh HG3.out hgrow HO.out (Nat.le_refl _)); have HC4 := hQ_ (fun i x (h : wr.cell? ⟨gu, i, none⟩ = some x) => hgrow.cell h (by intro e; exact HNe.out gu e.symm rfl)); have HN4 := hQ_ (show ∀ g', v'.ownBlock = some g' -> g' ≠ gu from fun g' h => by (rcases hat with e | e); (exact HNe.out g' (e ▸ h)); (have := Option.some.inj (e.symm.trans h); have := World.block_lt_of_cell? wr _ c0; dsimp only at this; omega)); have HCS := hQ_ (aQ c0 (aQ c1 (aQ c2 c3))); clear hown4 hgrow hat c0 c1 c2 c3)
         go_wp2_with fail
         go_roundw
         case rel =>
          have e : (digsS (d.take k) ++ (dig4 c).take 2).map (Value.int .i64) = (digsS (d.take k) ++ (dig4 c).take 1).map (Value.int .i64) ++ [.int .i64 (c / 16 % 4)] := by simp [dig4]
          refine ⟨2, by omega, rfl, by rw [e]; exact HO4.out, congrArg _ (by rw [HT.out]; simp [dig4, sumD] <;> omega), HG4.out, HN4.out, HC4.out _ _ HCS.out.1, HC4.out _ _ HCS.out.2.1, HC4.out _ _ HCS.out.2.2.1, HC4.out _ _ HCS.out.2.2.2⟩
         case measure => simp [intOf]
       · obtain ⟨T, hT⟩ : ∃ T : Int, T = S + sumD ((dig4 c).take 2) := ⟨_, rfl⟩
         rw [<- hT] at hz
         subst hj hz
         have hTr : 0 <= T /\ T <= 300 := by rw [hT]; simp [dig4, sumD]; omega
         have HO := hQ_ hown
         have HG3 := hQ_ hK
         have HNe := hQ_ hne
         have HT := hQ_ hT
         clear hown hK hne hT
         go_wp2_with (at_builtin; refine y9 rfl _ _ 102 rfl w.heap.size 3 _ i0 Tryz.underlying102 HI0.out.1 HI0.out.2.1 HI0.out.2.2.1 HI0.out.2.2.2 _ _ _ rfl HO.out _ rfl (by omega) HG3.out.size ?_; intro v' w4 hown4 hgrow hat; have HO4 := hQ_ hown4; have HG4 := hQ_ (yh HG3.out hgrow HO.out (Nat.le_refl _)); have HC4 := hQ_ (fun i x (h : wr.cell? ⟨gu, i, none⟩ = some x) => hgrow.cell h (by intro e; exact HNe.out gu e.symm rfl)); have HN4 := hQ_ (show ∀ g', v'.ownBlock = some g' -> g' ≠ gu from fun g' h => by (rcases hat with e | e); (exact HNe.out g' (e ▸ h)); (have := Option.some.inj (e.symm.trans h); have := World.block_lt_of_cell? wr _ c0; dsimp only at this; omega)); have HCS := hQ_ (aQ c0 (aQ c1 (aQ c2 c3))); clear hown4 hgrow hat c0 c1 c2 c3)
         go_wp2_with fail
         go_roundw
         case rel =>
          have e : (digsS (d.take k) ++ (dig4 c).take 3).map (Value.int .i64) = (digsS (d.take k) ++ (dig4 c).take 2).map (Value.int .i64) ++ [.int .i64 (c / 4 % 4)] := by simp [dig4]
          refine ⟨3, by omega, rfl, by rw [e]; exact HO4.out, congrArg _ (by rw [HT.out]; simp [dig4, sumD] <;> omega), HG4.out, HN4.out, HC4.out _ _ HCS.out.1, HC4.out _ _ HCS.out.2.1, HC4.out _ _ HCS.out.2.2.1, HC4.out _ _ HCS.out.2.2.2⟩
         case measure => simp [intOf]
       · obtain ⟨T, hT⟩ : ∃ T : Int, T = S + sumD ((dig4 c).take 3) := ⟨_, rfl⟩
         rw [<- hT] at hz
         subst hj hz
         have hTr : 0 <= T /\ T <= 300 := by rw [hT]; simp [dig4, sumD]; omega
         have HO := hQ_ hown
         have HG3 := hQ_ hK
         have HNe := hQ_ hne
         have HT := hQ_ hT
         clear hown hK hne hT
         go_wp2_with (at_builtin; refine y9 rfl _ _ 102 rfl w.heap.size 3 _ i0 Tryz.underlying102 HI0.out.1 HI0.out.2.1 HI0.out.2.2.1 HI0.out.2.2.2 _ _ _ rfl HO.out _ rfl (by omega) HG3.out.size ?_; intro v' w4 hown4 hgrow hat; have HO4 := hQ_ hown4; have HG4 := hQ_ (yh HG3.out hgrow HO.out (Nat.le_refl _)); have HC4 := hQ_ (fun i x (h : wr.cell? ⟨gu, i, none⟩ = some x) => hgrow.cell h (by intro e; exact HNe.out gu e.symm rfl)); have HN4 := hQ_ (show ∀ g', v'.ownBlock = some g' -> g' ≠ gu from fun g' h => by (rcases hat with e | e); (exact HNe.out g' (e ▸ h)); (have := Option.some.inj (e.symm.trans h); have := World.block_lt_of_cell? wr _ c0; dsimp only at this; omega)); have HCS := hQ_ (aQ c0 (aQ c1 (aQ c2 c3))); clear hown4 hgrow hat c0 c1 c2 c3)
         go_wp2_with fail
         go_roundw
         case rel =>
          have e : (digsS (d.take k) ++ (dig4 c).take 4).map (Value.int .i64) = (digsS (d.take k) ++ (dig4 c).take 3).map (Value.int .i64) ++ [.int .i64 (c % 4)] := by simp [dig4]
          refine ⟨4, by omega, rfl, by rw [e]; exact HO4.out, congrArg _ (by rw [HT.out]; simp [dig4, sumD] <;> omega), HG4.out, HN4.out, HC4.out _ _ HCS.out.1, HC4.out _ _ HCS.out.2.1, HC4.out _ _ HCS.out.2.2.1, HC4.out _ _ HCS.out.2.2.2⟩
         case measure => simp [intOf]
     · obtain rfl : m = 4 := by omega
       have ht4 : (dig4 c).take 4 = dig4 c := rfl
       rw [ht4] at hown hz
       obtain ⟨T, hT⟩ : ∃ T : Int, T = S + sumD (dig4 c) := ⟨_, rfl⟩
       rw [<- hT] at hz
       subst hj hz
       have HO := hQ_ hown
       have HG3 := hQ_ hK
       have HT := hQ_ hT
       have hI16 := HK.out.2.2.2.2.2.2
       clear hown hK hT hlt hm ht4 hne c0 c1 c2 c3
       go_wp2_with fail
       go_roundw
       case rel =>
        obtain ⟨hI, hlt, hnext, hS, hSr, hcr, _⟩ := HK.out
        refine ⟨k + 1, by omega, by rw [hI]; rfl, ?_, ?_, HG3.out⟩
        · rw [hnext, show 4 * (k + 1) = 4 * k + 4 by omega]; exact HO.out
        · rw [hnext, za8, <- hS, <- HT.out]
       case measure => obtain ⟨hI, hlt, _⟩ := HK.out; simp [intOf]; omega
  · have d1 : decide (I < 16) = false := by simp; omega
    obtain rfl : k = 16 := by omega
    rw [List.take_of_length_le (by rw [HD.out.2.1]; exact Nat.le_refl _)] at hown hS
    have hSr0 : 0 <= S /\ S <= 192 := by omega
    have HOW := hQ_ hown
    have HG := hQ_ hK
    have HS := hQ_ (aQ hS (aQ hSr hSr0))
    have HLIT := hQ_ (Blk.new wr 3 (arrV .i64 [S / 64, S / 16 % 4, S / 4 % 4, S % 4]))
    clear hI hlt hown hK hS hSr hk
    go_wp2_with (at_builtin; refine wpList_append_own _ rfl _ _ 102 rfl w.heap.size 3 i0 (.int .i64 0) 1 8 Tryz.underlying102 HI0.out.1 HI0.out.2.1 HI0.out.2.2.1 HI0.out.2.2.2 rfl (by decide) _ _ _ rfl (HOW.out.alloc _) ⟨wr.heap.size, 0, none⟩ 4 4 ([S / 64, S / 16 % 4, S / 4 % 4, S % 4].map (Value.int .i64)) rfl rfl (fun j u hu => by rw [yj]; exact (HLIT.out.cell j).trans (by simpa [arrV] using hu)) (by simp [Value.oneCell']) (by simp only [maxLen]; omega) (by omega) (by rw [World.size_alloc]; have := HG.out.size; omega) ?_; intro v' w4 hown4 hgrow _)
    have hfin : w4.ownsRow w.heap.size 3 1 v' 68 ((uh d).map (Value.int .i64)) := by
     rw [uh, <- HS.out.1, List.map_append, dig4, show S / 64 % 4 = S / 64 by have := HS.out.2.2; omega]
     exact hown4
    obtain ⟨g, cap, rfl, hg, hcell⟩ := own_some hfin (by omega)
    have hG4 := yh (za HG.out (World.grownBy_alloc wr _ none)) hgrow (HOW.out.alloc _) (Nat.le_refl _)
    go_ret
    exact ⟨g, cap, rfl, hcell, hg, hG4⟩
end
section
def endC (ps : List (List Int)) (d : List Int) (lf : Int) (j : Nat) : List Int := runC (ps.getD j zeroC) lf (j : Int) ((uh d).getD j 0) (3 - (uh d).getD j 0).toNat
theorem zeq {ps : List (List Int)} (h : ∀ p ∈ ps, isDig p) (d : List Int) (lf : Int) (j : Nat) : isDig (endC ps d lf j) := by
 rw [endC]; exact zc9 _ _ _ _ (zbu h j) _
def recC (lf : Int) (ps : List (List Int)) (d : List Int) : List Int := pubC lf (rowC (endC ps d lf) 68)
theorem rrun_v (w : World) (x : List Int) (hx : isDig x) (lf i lo : Int) (h0 : 0 <= lo) (n : Nat) (hn : n = (3 - lo).toNat) (ds rs : Array Value) (hd : ds = arrV .u8 x) (hrs : rs = arrV .u8 (runC x lf i lo n)) :
    Calls Tryz.prog 102 #[.agg ds, .int .i64 lf, .int .i64 i, .int .i64 lo, .int .i64 3] w fun e w' => e = .returned (.agg rs) /\ w.grownBy w' none := by
 subst hd
 exact rrun_is w x hx lf i lo 3 h0 (by omega) n hn rs hrs
theorem rrecover_is (w : World) (lf : Int) (b off c : Nat) (ps : List (List Int)) (hl : ps.length = 68) (hps : ∀ p ∈ ps, isDig p) (hD : DigsAt w b off ps) (d : List Int) (hd : isDig d) (rs : Array Value) (hrs : rs = arrV .u8 (recC lf ps d)) :
    Calls Tryz.prog 80 #[.int .i64 lf, .slice (some ⟨b, off, none⟩) 68 c, .agg (arrV .u8 d)] w fun e w' => e = .returned (.agg rs) /\ w.grownBy w' none := by
 obtain ⟨Z16, hZ16⟩ : ∃ Z, Z = arrV .u8 (List.replicate 16 0) := ⟨_, rfl⟩
 have hz16 : ∀ w, Sem.run Tryz.prog (zeroValue 24) w = .ok (.agg Z16) w := fun w => by rw [hZ16]; exact z16run w
 have hZs : Z16.size = 16 := by rw [hZ16]; rfl
 obtain ⟨ds, hds⟩ : ∃ ds, ds = arrV .u8 d := ⟨_, rfl⟩
 rw [<- hds]
 have HD := hQ_ (show ds = arrV .u8 d /\ ds.size = 16 /\ Z16.size = 16 from ⟨hds, by rw [hds, zf, hd.1], hZs⟩)
 have hrd : isDig (recC lf ps d) := by rw [recC, pubC]; exact zbb _ _
 have HN := hQ_ (aQ hd (aQ hl (aQ hps (aQ hD (aQ hrs hrd)))))
 clear hZ16 hZs hds hd hl hps hD hrs hrd
 go_enter Tryz.func80, Tryz.ntmps80
 obtain ⟨w0, hw0⟩ : ∃ w0, w0 = (w.alloc (.cells ds 24)).alloc (.cells Z16 24) := ⟨_, rfl⟩
 have HB0 := hQ_ (show Blk ((w.alloc (.cells ds 24)).alloc (.cells Z16 24)) w.heap.size 24 ds from (Blk.new w _ ds).alloc _)
 have HZ0 := hQ_ (show Blk w0 (w.heap.size + 1) 24 Z16 by rw [hw0]; have := Blk.new (w.alloc (.cells ds 24)) 24 Z16; rwa [World.size_alloc] at this)
 have HG0 := hQ_ (show w.grownBy w0 none by rw [hw0]; exact za (gQ) (gQ))
 have HW0 := hQ_ hw0
 clear hw0
 go_wp2_with (refine wpList_load_row rfl 24 _ rfl w.heap.size rfl 24 ds (0, 0) _ HB0.out Tryz.underlying24 rfl (by rw [HD.out.2.1]; exact info16) ?_)
 rw [<- HW0.out, HD.out.1]
 refine (rdigits_is w0 d HN.out.1.1 HN.out.1.2).mono ?_
 rintro e w1 ⟨g, cap, rfl, hcell, hgs, hk1⟩
 rw [<- HD.out.1]
 have HC := hQ_ hcell
 have HZ1 := hQ_ (HZ0.out.grown hk1 (by simp))
 have HG1 := hQ_ (za HG0.out hk1)
 clear hcell hgs hk1
 go_wp2_with fail
 go_loopw [13, 7] (fun i s wr => ∃ k : Nat, k <= 68 /\ i = .int .i64 (k : Int) /\ (∃ S : ByteArray, s = .string S /\ xsOf S = rowC (endC ps d lf) k) /\ w1.grownBy wr none) (fun i _ _ => 68 - (intOf i).toNat)
 case atStart => exact ⟨0, by omega, rfl, ⟨_, rfl, rfl⟩, World.grownBy.refl w1 none⟩
 case round =>
  obtain ⟨k, hk, hi, ⟨S, hs, hS⟩, hK⟩ := hrel
  obtain ⟨I, hI⟩ : ∃ I : Int, I = (k : Int) := ⟨_, rfl⟩
  rw [<- hI] at hi
  subst hi hs
  have hSz : S.size = 16 * k := by rw [<- z4, hS, rowC_length _ (fun j => (zeq HN.out.2.2.1 d lf j).1)]
  by_cases hlt : k < 68
  · have d1 : decide (I < 68) = true := by simp; omega
    have hI68 : 0 <= I /\ I < 68 := by omega
    have hkI : I.toNat = k := by omega
    obtain ⟨x, hx⟩ : ∃ x, x = (uh d).getD k 0 := ⟨_, rfl⟩
    have hxr : 0 <= x /\ x <= 3 := by
     have hl : k < (uh d).length := by rw [digitsS_length, HN.out.1.1]; exact hlt
     rw [hx, List.getD, List.getElem?_eq_getElem hl]
     exact digitsS_range d _ (List.getElem_mem hl)
    have kc : wr.cell? ⟨g, I.toNat, none⟩ = some (.int .i64 x) := by rw [hkI, hx]; exact hK.cell (HC.out k hlt) (by simp)
    obtain ⟨p, hp⟩ : ∃ p, p = ps.getD k zeroC := ⟨_, rfl⟩
    have hpd : isDig p := by rw [hp]; exact zbu HN.out.2.2.1 k
    obtain ⟨cs, hcs⟩ : ∃ cs, cs = arrV .u8 p := ⟨_, rfl⟩
    obtain ⟨cl, hcl⟩ : ∃ cl, cl = cs.toList := ⟨_, rfl⟩
    have hcl16 : cl.length = 16 := by rw [hcl, Array.length_toList, hcs, zf]; exact hpd.1
    have hr1 : wr.rangeAt b (off + I.toNat * 16) cl := by
     rw [hkI, hcl, hcs, hp]
     exact zaq (HN.out.2.2.2.1 k (by rw [HN.out.2.1]; exact hlt)) (za HG1.out hK)
    obtain ⟨es, hes⟩ : ∃ es, es = arrV .u8 (endC ps d lf k) := ⟨_, rfl⟩
    have hed := zeq HN.out.2.2.1 d lf k
    obtain ⟨T, hT⟩ := zer _ hed
    have hTs : T.size = 16 := by rw [<- z4, hT, hed.1]
    have hcat : ∀ w, (Op.stringOp .add S T).run Tryz.prog w = .ok (.string (S ++ T)) w := fun w => ze8 w S T (by omega) (by omega)
    have hnext : xsOf (S ++ T) = rowC (endC ps d lf) (k + 1) := by rw [zby, hS, hT, rowC]
    obtain ⟨Y, hY⟩ : ∃ Y, Y = S ++ T := ⟨_, rfl⟩
    rw [<- hY] at hcat hnext
    have HR := hQ_ (aQ hr1 (show (Tryz.prog.info? 24).map (·.size) = some cl.length by rw [hcl16]; exact info16))
    have HST := hQ_ (rrun_v wr p hpd lf I x hxr.1 _ rfl cl.toArray es (by rw [hcl, Array.toArray_toList, hcs]) (by rw [hes, endC, <- hx, <- hp, hI]))
    have HTX := hQ_ (fun w => text_v w _ hed.1 T hT es hes)
    have HK := hQ_ (aQ hI (aQ hlt (aQ hnext hK)))
    clear hI hlt hkI hx hp hpd hcs hcl hcl16 hr1 hes hed hT hTs hnext hY hK hk hS hSz
    go_wp2_with (refine wpList_load_mid rfl 24 _ rfl b (off + I.toNat * 16) rfl cl _ HR.out.1 Tryz.underlying24 rfl HR.out.2 ?_)
    refine HST.out.mono ?_
    rintro e w2 ⟨rfl, hk2⟩
    have HK2 := hQ_ (za HK.out.2.2.2 hk2)
    clear hk2
    go_wp2_with fail
    refine (HTX.out w2).mono ?_
    rintro e w3 ⟨rfl, hk3⟩
    have HK3 := hQ_ (za HK2.out hk3)
    clear hk3
    go_wp2_with fail
    go_roundw
    case rel =>
     obtain ⟨hI, hlt, hnext, _⟩ := HK.out
     exact ⟨k + 1, by omega, by rw [hI]; rfl, ⟨Y, rfl, hnext⟩, HK3.out⟩
    case measure => obtain ⟨hI, hlt, _⟩ := HK.out; simp only [intOf]; omega
  · obtain rfl : k = 68 := by omega
    have d1 : decide (I < 68) = false := by simp; omega
    have hrr : pubC lf (xsOf S) = recC lf ps d := by rw [hS, recC]
    have HS := hQ_ (aQ hrr hSz)
    have HK := hQ_ hK
    clear hS hSz hrr hK hI hlt hk
    go_wp2_with fail
    refine (rended_is wr lf S (by have := HS.out.2; omega)).mono ?_
    rintro e w4 ⟨rfl, hk4⟩
    rw [HS.out.1, <- HN.out.2.2.2.2.1]
    have HS6 := hQ_ (show rs.size = 16 /\ (rs.all fun x => x.oneCell') = true from ⟨by rw [HN.out.2.2.2.2.1, zf]; exact HN.out.2.2.2.2.2.1, by rw [HN.out.2.2.2.2.1]; exact zu _ _⟩)
    have HZ4 := hQ_ ((HZ1.out.grown HK.out (by simp)).grown hk4 (by simp))
    have HG4 := hQ_ (za HG1.out (za HK.out hk4))
    clear hk4
    go_wp2_with (refine wpList_store_row rfl 24 _ _ rfl (w.heap.size + 1) rs rfl rfl 24 _ HZ4.out (by rw [HS6.out.1]; exact info16) (by rw [HD.out.2.2, HS6.out.1]) HS6.out.2 ?_)
    refine bodyPost_ret (z5 rfl _ _ _ ⟨w.heap.size + 1, 0, none⟩ (.agg rs) rfl (run_loadVar_row _ (w.heap.size + 1) 24 24 rs (0, 0) _ (HZ4.out.row rs) Tryz.underlying24 rfl (by rw [HS6.out.1]; exact info16))) rfl ?_
    exact ⟨rfl, zc HG4.out (.inl (Nat.le_succ _)) rs⟩
end
end Go.Proofs.YtigafnbofmiknaaGreatDoor
