/-
  Several texts in one: Sh4, Sh5.
-/
import Derived.Test.YtpdfkgmgmndcfaaGreatDoorM20e
import Derived.Deep.RegionWith
import Derived.Laws.CopyOwn
import Derived.Laws.MakeOwn
/-
  SHA-256: bytes more.
-/
namespace Go.Proofs.YtpdfkgmgmndcfaaGreatDoor
open Go.RowKit

section
variable {P : Program}
theorem slice_from {w : World} {b o q n : Nat} {t e : TypeId} (hu : P.underlying t = some (.array n e)) (hs : (P.info? e).map (·.size) = some 1) (hq : q < n) :
    Sem.run P (Instr.sliceAt t (.pointer (some ⟨b, o, none⟩)) (some (.int .i64 (q : Int))) none none) w = .ok (.slice (some ⟨b, o + q, none⟩) (n - q) (n - q)) w := by
  cases hi : P.info? e with
  | none => simp [hi] at hs
  | some ei =>
    have h1 : ei.size = 1 := by simpa [hi] using hs
    have h2 : (q : Int) ≤ n := by omega
    have h3 : ¬ n = q := by omega
    have h4 := run_sliceAt_array_l (P := P) (w := w) t ⟨b, o, none⟩ (by unfold Program.arrayLen Program.elem; simp [hu]) .i64 (q : Int) (by omega) (by unfold Program.arrayLen; simp [hu]; omega)
    rw [h4]
    simp [Program.arrayLen, Program.elem, hu, slicedAt, sizeOf, typeInfo, hi, h1, h3, Addr.add]
theorem slice_all {w : World} {b o n : Nat} {t e : TypeId} (hu : P.underlying t = some (.array n e)) (hs : (P.info? e).map (·.size) = some 1) :
    Sem.run P (Instr.sliceAt t (.pointer (some ⟨b, o, none⟩)) none none none) w = .ok (.slice (some ⟨b, o, none⟩) n n) w := by
  cases hi : P.info? e with
  | none => simp [hi] at hs
  | some ei =>
    have h1 : ei.size = 1 := by simpa [hi] using hs
    have h4 := run_sliceAt_array_all (P := P) (w := w) t ⟨b, o, none⟩ (by unfold Program.arrayLen Program.elem; simp [hu])
    rw [h4]
    simp [Program.arrayLen, Program.elem, hu, slicedAt, sizeOf, typeInfo, hi, Addr.add]
theorem slice_to {w : World} {b o q n : Nat} {t e : TypeId} (hu : P.underlying t = some (.array n e)) (hs : (P.info? e).map (·.size) = some 1) (hq : q ≤ n) :
    Sem.run P (Instr.sliceAt t (.pointer (some ⟨b, o, none⟩)) none (some (.int .i64 (q : Int))) none) w = .ok (.slice (some ⟨b, o, none⟩) q n) w := by
  cases hi : P.info? e with
  | none => simp [hi] at hs
  | some ei =>
    have h4 := run_sliceAt_array_h (P := P) (w := w) t ⟨b, o, none⟩ (by unfold Program.arrayLen Program.elem; simp [hu]) .i64 (q : Int) (by omega) (by unfold Program.arrayLen; simp [hu]; omega)
    rw [h4]
    simp [Program.arrayLen, Program.elem, hu, slicedAt, sizeOf, typeInfo, hi, Addr.add]
end

/-- 'copy' into a block that is known whole. -/
theorem copy_run {P : Program} (w : World) (dT sT ty elem : TypeId) (hu : P.underlying dT = some (.slice elem)) (hsz : (P.info? elem).map (·.size) = some 1)
    (g off dLen dCap : Nat) (ad : Addr) (sLen sCap : Nat) (cur new : Array Value) (t : TypeId) (hg : Blk w g t cur) (cs : List Value) (N : Nat) (hN : cs.length = N) (hn : N = Nat.min sLen dLen)
    (hsrc : ∀ j v, cs[j]? = some v → w.cell? (ad.add j) = some v) (hfit : off + N ≤ cur.size) (h1 : ∀ v ∈ cs, v.oneCell' = true)
    (hnew : cur.toList.take off ++ cs ++ cur.toList.drop (off + N) = new.toList) :
    ∃ w1, Sem.run P (Builtin.copy_ #[dT, sT] ty #[.slice (some ⟨g, off, none⟩) dLen dCap, .slice (some ad) sLen sCap]) w = .ok (.int .i64 (N : Int)) w1 ∧ Blk w1 g t new ∧ w.grownBy w1 (some g) := by
  subst hN
  refine ⟨_, run_copy_row P w dT sT ty elem g off dLen dCap ad sLen sCap cur t cs hu hsz hg hn hsrc hfit h1, ?_, grown_row (World.grownBy.refl w _) (.inr rfl) _⟩
  rw [hnew, Array.toArray_toList]
  exact setRow_heap w g cur new t (0, 0) hg

theorem be64_true (q N : Nat) (h : q + N = 64) : ((q : Int) + (N : Int) == 64) = true := by
  have : (q : Int) + (N : Int) = 64 := by omega
  rw [this]; rfl
theorem be64_false (q N : Nat) (h : ¬ q + N = 64) : ((q : Int) + (N : Int) == 64) = false := by
  have : ¬ (q : Int) + (N : Int) = 64 := by omega
  exact beq_eq_false_iff_ne.2 this

theorem addr_add_add (a : Addr) (i j : Nat) : (a.add i).add j = a.add (i + j) := by
  unfold Addr.add
  split <;> split <;> simp_all <;> omega

/-- The bytes x lie at A. -/
def BytesI (w : World) (A : Option Addr) (x : List Int) : Prop := x ≠ [] → ∃ ad, A = some ad ∧ ∀ j, j < x.length → w.cell? (ad.add j) = some (.int .u8 (x.getD j 0))

/-- A hash's state. -/
structure HS where
  ws : List Int
  bs : List Int
  n : Nat
def pushS (s : HS) (x : Int) : HS :=
  if s.n % 64 + 1 = 64 then ⟨mixS s.ws (s.bs.set (s.n % 64) x), s.bs.set (s.n % 64) x, s.n + 1⟩ else ⟨s.ws, s.bs.set (s.n % 64) x, s.n + 1⟩
def writeS (s : HS) (x : List Int) : HS := x.foldl pushS s
theorem writeS_append (s : HS) (x y : List Int) : writeS s (x ++ y) = writeS (writeS s x) y := List.foldl_append
theorem pushS_n (s : HS) (x : Int) : (pushS s x).n = s.n + 1 := by unfold pushS; split <;> rfl
theorem writeS_n : ∀ (x : List Int) (s : HS), (writeS s x).n = s.n + x.length
  | [], _ => rfl
  | x :: y, s => by
    show (writeS (pushS s x) y).n = _
    rw [writeS_n y, pushS_n, List.length_cons]; omega
def HashIs (w : World) (g : Nat) (s : HS) : Prop := HashAt w g s.ws s.bs (s.n : Int)

def over (bs : List Int) : Nat → List Int → List Int
  | _, [] => bs
  | a, x :: y => over (bs.set a x) (a + 1) y
theorem over_length : ∀ (y bs : List Int) (a : Nat), (over bs a y).length = bs.length
  | [], _, _ => rfl
  | x :: y, bs, a => by rw [over, over_length y, List.length_set]
theorem hashV_setByte {ws bs : List Int} {n : Int} {i : Nat} (x : Int) (h : i < bs.length) : (hashV ws bs n).toList.set (ws.length + i) (.int .u8 x) = (hashV ws (bs.set i x) n).toList := by
  simp [hashV, List.map_set, h]
theorem hashV_over (ws : List Int) (n : Int) : ∀ (y bs : List Int) (a : Nat), a + y.length ≤ bs.length →
    (hashV ws bs n).toList.take (ws.length + a) ++ y.map (Value.int .u8) ++ (hashV ws bs n).toList.drop (ws.length + a + y.length) = (hashV ws (over bs a y) n).toList
  | [], bs, a, _ => by simp [over]
  | x :: y, bs, a, h => by
    simp only [List.length_cons] at h
    have h1 := list_seg_step (hashV ws bs n).toList (ws.length + a) (.int .u8 x) (y.map (Value.int .u8)) (by simp [hashV]; omega)
    have h2 := hashV_over ws n y (bs.set a x) (a + 1) (by rw [List.length_set]; omega)
    rw [hashV_setByte x (by omega)] at h1
    simp only [List.length_map] at h1
    rw [over, ← h2, List.map_cons, List.length_cons, ← h1]
    rfl
theorem write_chunk : ∀ (y : List Int) (s : HS), s.n % 64 + y.length ≤ 64 → y ≠ [] →
    writeS s y = if s.n % 64 + y.length = 64 then ⟨mixS s.ws (over s.bs (s.n % 64) y), over s.bs (s.n % 64) y, s.n + y.length⟩ else ⟨s.ws, over s.bs (s.n % 64) y, s.n + y.length⟩
  | [], _, _, h => absurd rfl h
  | [x], s, _, _ => rfl
  | x :: z :: y, s, h, _ => by
    simp only [List.length_cons] at h
    have hp : pushS s x = ⟨s.ws, s.bs.set (s.n % 64) x, s.n + 1⟩ := by rw [pushS, if_neg (by omega)]
    have hm : (s.n + 1) % 64 = s.n % 64 + 1 := by omega
    have ih := write_chunk (z :: y) (pushS s x) (by rw [hp]; dsimp only; rw [hm]; simp only [List.length_cons]; omega) (by simp)
    rw [show writeS s (x :: z :: y) = writeS (pushS s x) (z :: y) from rfl, ih, hp]
    dsimp only
    rw [hm]
    simp only [List.length_cons, over]
    have e2 : s.n + 1 + (y.length + 1) = s.n + (y.length + 1 + 1) := by omega
    by_cases e : s.n % 64 + (y.length + 1 + 1) = 64
    · rw [if_pos (by omega), if_pos e, e2]
    · rw [if_neg (by omega), if_neg e, e2]

set_option maxRecDepth 100000 in
set_option maxHeartbeats 1000000 in
theorem write_is (w : World) (g : Nat) (s : HS) (hH : HashIs w g s) (hg : g ≠ 18) (hR : Rounds w) (A : Option Addr) (m c : Nat) (x : List Int) (hm : x.length = m) (hx : BytesI w A x) (hne : ∀ ad, A = some ad → x ≠ [] → ad.block ≠ g) (hc : m ≤ c) (hn : s.n + m ≤ 1152921504606846976) :
    Calls Tryz.prog 48 #[.pointer (some ⟨g, 0, none⟩), .slice A m c] w fun e w' => e = .returned (.tuple #[]) ∧ HashIs w' g (writeS s x) ∧ w.grownBy w' (some g) := by
  have HH := Lib.hid hH
  have HR := Lib.hid hR
  have HX := Lib.hid hx
  have HN := Lib.hid (And.intro hne (And.intro hm (And.intro hc (And.intro hn hg))))
  clear hH hR hx hne hm hc hn hg
  go_enter Tryz.func48, Tryz.ntmps48
  go_wp2_with fail
  go_loopw [1] (fun v wr => ∃ (k : Nat) (A1 : Option Addr) (M c1 : Nat), k ≤ m ∧ M = m - k ∧ v = .slice A1 M c1 ∧ M ≤ c1 ∧ BytesI w A1 (x.drop k) ∧ (∀ ad, A1 = some ad → x.drop k ≠ [] → ad.block ≠ g) ∧ HashIs wr g (writeS s (x.take k)) ∧ w.grownBy wr (some g)) (fun v _ => match v with | .slice _ n _ => n | _ => 0)
  case atStart => exact ⟨0, A, m, c, by omega, by omega, rfl, HN.out.2.2.1, HX.out, HN.out.1, HH.out, World.grownBy.refl w _⟩
  case round =>
    obtain ⟨k, A1, M, c1, hk, hM, rfl, hMc, hb, hne, hH, hK⟩ := hrel
    by_cases h0 : M = 0
    · subst h0
      have HH2 := Lib.hid hH
      have HK2 := Lib.hid hK
      have HM := Lib.hid (And.intro hM hk)
      clear hb hne hH hK hM hk hMc
      go_wp2_with fail
      go_end0
      refine ⟨rfl, ?_, HK2.out⟩
      obtain rfl : k = m := by have := HM.out; omega
      have := HH2.out
      rw [List.take_of_length_le (by rw [HN.out.2.1]; exact Nat.le_refl _)] at this
      exact this
    · have hpos : 0 < M := by omega
      obtain ⟨s1, hs1⟩ : ∃ s1, s1 = writeS s (x.take k) := ⟨_, rfl⟩
      rw [← hs1] at hH
      obtain ⟨y0, hy0⟩ : ∃ y0, y0 = x.drop k := ⟨_, rfl⟩
      rw [← hy0] at hb hne
      have hyl : y0.length = M := by rw [hy0, List.length_drop, HN.out.2.1, hM]
      have hyn : y0 ≠ [] := fun e => h0 (by rw [← hyl, e]; rfl)
      obtain ⟨ad, rfl, hcell⟩ := hb hyn
      have hadg := hne ad rfl hyn
      obtain ⟨hB, hw8, hb64⟩ := hH
      obtain ⟨ws, bs, n⟩ := s1
      dsimp only at hB hw8 hb64
      have hnb : n + M ≤ 1152921504606846976 := by
        have h1 := congrArg HS.n hs1
        rw [writeS_n, List.length_take] at h1
        dsimp only at h1
        have h2 := HN.out
        omega
      obtain ⟨q, hq⟩ : ∃ q : Nat, q = n % 64 := ⟨_, rfl⟩
      have hq64 : q < 64 := by omega
      have kn : wr.cell? ⟨g, 72, none⟩ = some (.int .i64 (n : Int)) := by have := (hB.cell 72); rw [this, show 72 = ws.length + bs.length by omega]; exact hashV_count
      have HB := Lib.hid hB
      have HK := Lib.hid hK
      have HC := Lib.hid hcell
      have HM := Lib.hid (And.intro hk (And.intro hM (And.intro hs1 (And.intro hy0 (And.intro hyl hnb)))))
      have HQ := Lib.hid (And.intro hq (And.intro hq64 (And.intro hMc (And.intro hw8 hb64))))
      have HA := Lib.hid (And.intro hadg h0)
      clear hB hK hcell hk hM hs1 hy0 hyl hyn hnb hq hq64 hMc hw8 hb64 hadg h0 hne hb
      have hqi : (n : Int) % 64 = (q : Int) := by have := HQ.out.1; omega
      have hsl : Sem.run Tryz.prog (Instr.sliceAt 120 (.pointer (some ⟨g, 8, none⟩)) (some (.int .i64 ((n : Int) % 64))) none none) wr = .ok (.slice (some ⟨g, 8 + q, none⟩) (64 - q) (64 - q)) wr := by
        rw [hqi]; exact slice_from (P := Tryz.prog) (w := wr) (b := g) (o := 8) (t := 120) Tryz.underlying120 (by kernel_rfl) HQ.out.2.1
      have HQI := Lib.hid hqi
      clear hqi
      obtain ⟨N, hN⟩ : ∃ N, N = Nat.min M (64 - q) := ⟨_, rfl⟩
      have hNs : N ≤ M ∧ q + N ≤ 64 ∧ 0 < N ∧ (q + N = 64 ∨ N = M) := by
        have := HQ.out.2.1
        rw [hN]
        simp only [Nat.min_def]
        split <;> omega
      obtain ⟨y, hy⟩ : ∃ y, y = y0.take N := ⟨_, rfl⟩
      have hyl : y.length = N := by rw [hy, List.length_take, HM.out.2.2.2.2.1]; omega
      have hcsrc : ∀ j v, (y.map (Value.int .u8))[j]? = some v → wr.cell? (ad.add j) = some v := by
        intro j v hv
        rw [hy] at hv
        simp only [List.getElem?_map, List.getElem?_take] at hv
        by_cases hj : j < N
        · rw [if_pos hj] at hv
          by_cases hj2 : j < y0.length
          · rw [HK.out.cell (HC.out j hj2) (by rw [block_add]; intro e; exact HA.out.1 (Option.some.inj e))]
            simpa [List.getElem?_eq_getElem hj2] using hv
          · simp [List.getElem?_eq_none (Nat.le_of_not_lt hj2)] at hv
        · simp [if_neg hj] at hv
      obtain ⟨Y, hY⟩ : ∃ Y, Y = y.map (Value.int .u8) := ⟨_, rfl⟩
      have hYl : Y.length = N := by rw [hY, List.length_map, hyl]
      have h1Y : ∀ v ∈ Y, v.oneCell' = true := by rw [hY]; intro v hv; simp at hv; obtain ⟨z, _, rfl⟩ := hv; rfl
      rw [← hY] at hcsrc
      obtain ⟨bs2, hbs2⟩ : ∃ bs2, bs2 = over bs q y := ⟨_, rfl⟩
      have hb2l : bs2.length = 64 := by rw [hbs2, over_length]; exact HQ.out.2.2.2.2
      have hnew : (hashV ws bs n).toList.take (8 + q) ++ Y ++ (hashV ws bs n).toList.drop (8 + q + N) = (hashV ws bs2 n).toList := by
        have := hashV_over ws n y bs q (by rw [HQ.out.2.2.2.2, hyl]; exact hNs.2.1)
        rw [HQ.out.2.2.2.1, hyl, ← hY, ← hbs2] at this
        exact this
      have hfit : 8 + q + N ≤ (hashV ws bs n).size := by simp [hashV, HQ.out.2.2.2.1, HQ.out.2.2.2.2]; omega
      have HY := Lib.hid (And.intro hY (And.intro hy (And.intro hyl (And.intro hYl (And.intro hcsrc h1Y)))))
      have HNs := Lib.hid (And.intro hNs (And.intro hN (And.intro hnew (And.intro hfit (And.intro hb2l hbs2)))))
      have hNM : N ≤ M := hNs.1
      have hMc : M ≤ c1 := HQ.out.2.2.1
      have s1 : wrap64 ((n : Int) + (N : Int)) = ((n + N : Nat) : Int) := by have := HM.out.2.2.2.2.2; rw [w64 _ ⟨by omega, by omega⟩]; omega
      have s2 : wrap64 ((n : Int) % 64 + (N : Int)) = ((q + N : Nat) : Int) := by rw [HQI.out, w64 _ ⟨by omega, by omega⟩]; omega
      obtain ⟨w1, hcopy, hB1, hG1⟩ := copy_run (P := Tryz.prog) wr 60 60 3 5 Tryz.underlying60 (by kernel_rfl) g (8 + q) (64 - q) (64 - q) ad M c1 (hashV ws bs n) (hashV ws bs2 n) 122 HB.out Y N HY.out.2.2.2.1 HNs.out.2.1 HY.out.2.2.2.2.1 HNs.out.2.2.2.1 HY.out.2.2.2.2.2 HNs.out.2.2.1
      have kn1 : w1.cell? ⟨g, 72, none⟩ = some (.int .i64 (n : Int)) := by have := (hB1.cell 72); rw [this, show 72 = ws.length + bs2.length by rw [HQ.out.2.2.2.1, hb2l]]; exact hashV_count
      have kf1 := hB1.frozen 72
      have HB1 := Lib.hid hB1
      have HG1 := Lib.hid hG1
      clear hB1 hG1
      have hw2 : Blk (w1.setCell ⟨g, 72, none⟩ (.int .i64 ((n : Int) + (N : Int)))) g 122 (hashV ws bs2 ((n : Int) + (N : Int))) := by
        have h1 := HB1.out.set 72 (.int .i64 ((n : Int) + (N : Int)))
        have h2 := hashV_setCount (ws := ws) (bs := bs2) (n := (n : Int)) ((n : Int) + (N : Int))
        rw [show ws.length + bs2.length = 72 by rw [HQ.out.2.2.2.1, hb2l]] at h2
        rw [h2] at h1
        exact h1
      have hg2 : w.grownBy (w1.setCell ⟨g, 72, none⟩ (.int .i64 ((n : Int) + (N : Int)))) (some g) := grown_far (grown_trans HK.out HG1.out) (.inr rfl) _
      have hst : writeS s (x.take (k + N)) = writeS ⟨ws, bs, n⟩ y := by
        rw [HM.out.2.2.1, ← writeS_append, List.take_add, hy, HM.out.2.2.2.1]
      have hdrop : x.drop (k + N) = y0.drop N := by rw [HM.out.2.2.2.1, List.drop_drop]
      have hdl : (x.drop (k + N)).length = M - N := by rw [hdrop, List.length_drop, HM.out.2.2.2.2.1]
      have hA1 : x.drop (k + N) ≠ [] → (if c1 = N then some ad else some (ad.add N)) = some (ad.add N) := fun e => by
        have : x.drop (k + N) ≠ [] → 0 < (x.drop (k + N)).length := fun e => List.length_pos_iff.2 e
        have := this e
        rw [if_neg (by omega)]
      have hby : BytesI w (if c1 = N then some ad else some (ad.add N)) (x.drop (k + N)) := fun e => by
        refine ⟨_, hA1 e, fun j hj => ?_⟩
        rw [hdl] at hj
        have := HC.out (N + j) (by rw [HM.out.2.2.2.2.1]; omega)
        rw [addr_add_add, this, hdrop]
        simp [List.getD]
      have hbl : ∀ ad1, (if c1 = N then some ad else some (ad.add N)) = some ad1 → x.drop (k + N) ≠ [] → ad1.block ≠ g := fun ad1 e1 e2 => by
        rw [hA1 e2] at e1
        obtain rfl := Option.some.inj e1
        rw [block_add]
        exact HA.out.1
      have hkm : k + N ≤ m ∧ M - N = m - (k + N) ∧ M - N ≤ c1 - N ∧ M - N < M := by have := HM.out; omega
      have HF := Lib.hid (And.intro hw2 (And.intro hg2 (And.intro hst (And.intro hby (And.intro hbl hkm)))))
      have hch := write_chunk y ⟨ws, bs, n⟩ (by dsimp only; rw [← HQ.out.1, hyl]; exact hNs.2.1) (by intro e; rw [e] at hyl; simp at hyl; omega)
      dsimp only at hch
      rw [← HQ.out.1, hyl, ← hbs2] at hch
      have HCH := Lib.hid hch
      have HZ := Lib.hid (And.intro hb2l hNs)
      clear hw2 hg2 hst hdrop hdl hA1 hby hbl hkm hch
      by_cases hfull : q + N = 64
      · have hbe : ((n : Int) % 64 + (N : Int) == 64) = true := by rw [HQI.out]; exact be64_true q N hfull
        clear hY hy hyl hYl hcsrc h1Y hN hNs hnew hfit hb2l hbs2
        by_cases hcN : c1 = N
        · subst c1
          go_wp2_with fail
          generalize w1.setCell ⟨g, 72, none⟩ (.int .i64 ((n : Int) + (N : Int))) = w2 at HF ⊢
          have HB2 := Lib.hid (show HashAt w2.drew g ws bs2 ((n : Int) + (N : Int)) from ⟨HF.out.1, HQ.out.2.2.2.1, HZ.out.1⟩)
          have HR2 := Lib.hid (show Rounds w2.drew from HR.out.grown (grown_drew HF.out.2.1) (by intro e; exact HN.out.2.2.2.2 (Option.some.inj e).symm))
          have HBy := Lib.hid (show BytesN w2.drew g 8 bs2 from fun j hj => by
            have h1 := HF.out.1.cell (8 + j)
            rw [show 8 + j = ws.length + j by rw [HQ.out.2.2.2.1]] at h1
            rw [show 8 + j = ws.length + j by rw [HQ.out.2.2.2.1]]
            exact h1.trans (hashV_byte hj))
          have hsa := slice_all (P := Tryz.prog) (w := w2.drew) (b := g) (o := 8) (t := 120) Tryz.underlying120 (by kernel_rfl)
          clear kn1 kf1 hcopy hsl kn s1 s2
          go_region_with (go_at_call 65; refine (mix_is _ g ws bs2 _ HB2.out HN.out.2.2.2.2 HR2.out g 8 64 bs2 HZ.out.1 HBy.out (Nat.le_refl _)).mono ?_; rintro e w3 ⟨rfl, hH3, hk3⟩)
          have HH3 := Lib.hid hH3
          have HK3 := Lib.hid hk3
          clear hH3 hk3
          go_wp2_with fail
          go_roundw
          case rel =>
            obtain ⟨hw2, hg2, hst, hby, hbl, h1, h2, h3, h4⟩ := HF.out
            rw [if_pos trivial] at hby hbl
            refine ⟨k + N, _, 0, 0, h1, by omega, rfl, Nat.le_refl _, hby, hbl, ?_, grown_trans (grown_drew hg2) HK3.out⟩
            rw [hst, HCH.out, if_pos hfull]
            exact HH3.out
          case measure => exact Nat.lt_of_le_of_lt (Nat.zero_le _) HF.out.2.2.2.2.2.2.2.2
        · go_wp2_with fail
          generalize w1.setCell ⟨g, 72, none⟩ (.int .i64 ((n : Int) + (N : Int))) = w2 at HF ⊢
          have HB2 := Lib.hid (show HashAt w2.drew g ws bs2 ((n : Int) + (N : Int)) from ⟨HF.out.1, HQ.out.2.2.2.1, HZ.out.1⟩)
          have HR2 := Lib.hid (show Rounds w2.drew from HR.out.grown (grown_drew HF.out.2.1) (by intro e; exact HN.out.2.2.2.2 (Option.some.inj e).symm))
          have HBy := Lib.hid (show BytesN w2.drew g 8 bs2 from fun j hj => by
            have h1 := HF.out.1.cell (8 + j)
            rw [show 8 + j = ws.length + j by rw [HQ.out.2.2.2.1]] at h1
            rw [show 8 + j = ws.length + j by rw [HQ.out.2.2.2.1]]
            exact h1.trans (hashV_byte hj))
          have hsa := slice_all (P := Tryz.prog) (w := w2.drew) (b := g) (o := 8) (t := 120) Tryz.underlying120 (by kernel_rfl)
          clear kn1 kf1 hcopy hsl kn s1 s2
          go_region_with (go_at_call 65; refine (mix_is _ g ws bs2 _ HB2.out HN.out.2.2.2.2 HR2.out g 8 64 bs2 HZ.out.1 HBy.out (Nat.le_refl _)).mono ?_; rintro e w3 ⟨rfl, hH3, hk3⟩)
          have HH3 := Lib.hid hH3
          have HK3 := Lib.hid hk3
          clear hH3 hk3
          go_wp2_with fail
          go_roundw
          case rel =>
            obtain ⟨hw2, hg2, hst, hby, hbl, h1, h2, h3, h4⟩ := HF.out
            rw [if_neg hcN] at hby hbl
            refine ⟨k + N, _, _, _, h1, h2, rfl, by omega, hby, hbl, ?_, grown_trans (grown_drew hg2) HK3.out⟩
            rw [hst, HCH.out, if_pos hfull]
            exact HH3.out
          case measure => exact HF.out.2.2.2.2.2.2.2.2
      · have hbe : ((n : Int) % 64 + (N : Int) == 64) = false := by rw [HQI.out]; exact be64_false q N hfull
        clear hY hy hyl hYl hcsrc h1Y hN hNs hnew hfit hb2l hbs2
        go_wp2_with fail
        go_roundw
        case rel =>
          obtain ⟨hw2, hg2, hst, hby, hbl, h1, h2, h3, h4⟩ := HF.out
          refine ⟨k + N, _, _, _, h1, h2, rfl, h3, hby, hbl, ?_, hg2⟩
          rw [hst, HCH.out, if_neg hfull]
          exact ⟨by rw [show (((n + N : Nat)) : Int) = (n : Int) + (N : Int) by omega]; exact hw2, HQ.out.2.2.2.1, HZ.out.1⟩
        case measure => exact HF.out.2.2.2.2.2.2.2.2
end Go.Proofs.YtpdfkgmgmndcfaaGreatDoor
/-
  SHA-256: the start, a word's bytes, the end.
-/
namespace Go.Proofs.YtpdfkgmgmndcfaaGreatDoor
open Go.RowKit

def wordB (x : Int) : List Int := [x / 16777216 % 256, x / 65536 % 256, x / 256 % 256, x % 256]
def startS : HS := ⟨[1779033703, 3144134277, 1013904242, 2773480762, 1359893119, 2600822924, 528734635, 1541459225], List.replicate 64 0, 0⟩

theorem arr_set4 {l : List Int} {o : Nat} (a b c d : Int) : ((((arrV .u8 l).setIfInBounds o (.int .u8 a)).setIfInBounds (o + 1) (.int .u8 b)).setIfInBounds (o + 2) (.int .u8 c)).setIfInBounds (o + 3) (.int .u8 d) = arrV .u8 (over l o [a, b, c, d]) := by
  simp only [arr_set, over]

set_option maxHeartbeats 1000000 in
theorem put_is (w : World) (g o n c : Nat) (t : TypeId) (l : List Int) (x : Int) (hB : Blk w g t (arrV .u8 l)) (ho : o + 4 ≤ l.length) (hn : 4 ≤ n) :
    Calls Tryz.prog 49 #[.slice (some ⟨g, o, none⟩) n c, .int .u32 x] w fun e w' => e = .returned (.tuple #[]) ∧ Blk w' g t (arrV .u8 (over l o (wordB x))) ∧ w.grownBy w' (some g) := by
  have hb1 : ∀ i, i < 4 → ∃ v, w.cell? ⟨g, o + i, none⟩ = some v := fun i hi => by
    rw [hB.cell, arr_get (by omega)]; exact ⟨_, rfl⟩
  obtain ⟨v0, c0⟩ := hb1 0 (by omega)
  obtain ⟨v1, c1⟩ := hb1 1 (by omega)
  obtain ⟨v2, c2⟩ := hb1 2 (by omega)
  obtain ⟨v3, c3⟩ := hb1 3 (by omega)
  have f0 := hB.frozen o
  have f1 := hB.frozen (o + 1)
  have f2 := hB.frozen (o + 2)
  have f3 := hB.frozen (o + 3)
  rw [Nat.add_zero] at c0
  have HB := Lib.hid hB
  have n0 : (0 : Int) < (n : Int) := by omega
  have n1 : (1 : Int) < (n : Int) := by omega
  have n2 : (2 : Int) < (n : Int) := by omega
  have n3 : (3 : Int) < (n : Int) := by omega
  clear hB hb1
  go_enter Tryz.func49, Tryz.ntmps49
  go_wp2_with fail
  go_end0
  refine ⟨rfl, ?_, ?_⟩
  · have h := (((HB.out.set o (.int .u8 (x / 16777216 % 256))).set (o + 1) (.int .u8 (x / 65536 % 256))).set (o + 2) (.int .u8 (x / 256 % 256))).set (o + 3) (.int .u8 (x % 256))
    rw [arr_set4] at h
    exact h
  · have e1 := grown_far (World.grownBy.refl w (some g)) (p := ⟨g, o, none⟩) (.inr rfl) (.int .u8 (x / 16777216 % 256))
    have e2 := grown_far e1 (p := ⟨g, o + 1, none⟩) (.inr rfl) (.int .u8 (x / 65536 % 256))
    have e3 := grown_far e2 (p := ⟨g, o + 2, none⟩) (.inr rfl) (.int .u8 (x / 256 % 256))
    exact grown_far e3 (p := ⟨g, o + 3, none⟩) (.inr rfl) (.int .u8 (x % 256))

theorem zero_runK20 {P : Program} {t : TypeId} {v : Value} (w : World) (h : (P.info? t).bind (·.zero) = some v) : Sem.run P (zeroValue t) w = .ok v w := by
  cases hq : P.info? t with
  | none => simp [hq] at h
  | some i =>
    have h1 : i.zero = some v := by simpa [hq] using h
    simp [zeroValue, typeInfo, hq, h1]
def hash0 : Array Value := hashV (List.replicate 8 0) (List.replicate 64 0) 0
theorem zeroHash (w : World) : Sem.run Tryz.prog (zeroValue 122) w = .ok (.agg hash0) w :=
  zero_runK20 w (by kernel_rfl)
theorem hash_size (ws bs : List Int) (n : Int) (h8 : ws.length = 8) (h64 : bs.length = 64) : (hashV ws bs n).size = 73 := by simp [hashV, h8, h64]
theorem hash_one (ws bs : List Int) (n : Int) : ((hashV ws bs n).all fun x => x.oneCell') = true := by simp [hashV, Value.oneCell']
theorem hash_info : (Tryz.prog.info? 122).map (·.size) = some 73 := by kernel_rfl
theorem startS_ok : startS.ws.length = 8 ∧ startS.bs.length = 64 := ⟨rfl, rfl⟩

set_option maxRecDepth 100000 in
set_option maxHeartbeats 1000000 in
theorem start_is (w : World) : Calls Tryz.prog 47 #[] w fun e w' => e = .returned (.agg (hashV startS.ws startS.bs 0)) ∧ w.grownBy w' none := by
  obtain ⟨C0, hC0⟩ : ∃ C0, C0 = hash0 := ⟨_, rfl⟩
  have hz : ∀ w, Sem.run Tryz.prog (zeroValue 122) w = .ok (.agg C0) w := fun w => by rw [hC0]; exact zeroHash w
  have hsz : C0.size = 73 := by rw [hC0]; rfl
  have HC := Lib.hid hC0
  clear hC0
  obtain ⟨C1, hC1⟩ : ∃ C1, C1 = (((((((C0.setIfInBounds 0 (.int .u32 1779033703)).setIfInBounds 1 (.int .u32 3144134277)).setIfInBounds 2 (.int .u32 1013904242)).setIfInBounds 3 (.int .u32 2773480762)).setIfInBounds 4 (.int .u32 1359893119)).setIfInBounds 5 (.int .u32 2600822924)).setIfInBounds 6 (.int .u32 528734635)).setIfInBounds 7 (.int .u32 1541459225) := ⟨_, rfl⟩
  have H1 : C1 = hashV startS.ws startS.bs 0 := by rw [hC1, HC.out]; kernel_rfl
  have HS1 := Lib.hid (show C1.size = 73 by rw [H1]; exact hash_size _ _ _ rfl rfl)
  have HO1 := Lib.hid (show (C1.all fun x => x.oneCell') = true by rw [H1]; exact hash_one _ _ _)
  have HI1 := Lib.hid (show (Tryz.prog.info? 122).map (·.size) = some C1.size by rw [HS1.out]; exact hash_info)
  have H1' := Lib.hid H1
  clear H1
  have HC1 := Lib.hid hC1
  clear hC1
  go_enter Tryz.func47, Tryz.ntmps47
  go_wp2_with (rw [← HC1.out]; refine wpList_store_row rfl 122 _ _ rfl w.heap.size C1 rfl rfl 122 _ (heap_alloc_new w _) HI1.out (by rw [HS1.out]; exact hsz) HO1.out ?_)
  have hB1 := Blk.row (Blk.new w 122 C0) C1
  refine bodyPost_ret (results_cell rfl _ _ _ ⟨w.heap.size, 0, none⟩ (.agg C1) rfl (run_loadVar_row _ w.heap.size 122 122 C1 (0, 0) _ hB1 Tryz.underlying122 rfl HI1.out)) rfl ?_
  exact ⟨by rw [H1'.out], grown_row (World.grownBy_alloc w _ none) (.inl (Nat.le_refl _)) C1⟩
end Go.Proofs.YtpdfkgmgmndcfaaGreatDoor
