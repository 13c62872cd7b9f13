/-
  Contracts of the laws' own helpers: memory that is marked (markInt64S, markInt64SS, markArena) and found marked (heldInt64S, heldInt64SS, heldArena).
-/
import Derived.Test.YtmobegiojhlakaaOwn
import Derived.Test.YtmobegiojhlakaaCopy
import Derived.Test.YtmobegiojhlakaaSize
namespace Go.Proofs.Ytmobegiojhlakaa
open Go.RowKit

theorem ArenaCopy.owned {w w' w0 : World} {v : Value} {O : List Int} {zss : List (List Int)} (h : ArenaCopy w w' O zss) (hA : ArenaAt w0 v O zss) :
    OwnArena w' w.heap.size w'.heap.size (.agg #[.slice (some ⟨w.heap.size + 3, 0, none⟩) O.length O.length, .slice (some ⟨w.heap.size + 4, 0, none⟩) zss.length zss.length]) O zss := by
  obtain ⟨ao, an, co, cn, A, C, _, hO, hN⟩ := hA
  have hs := h.size
  refine ⟨_, _, outer (w.heap.size + 4) zss zss.length, rfl, OwnInts.of_rowIs h.owner (by omega) (by omega) hO.len hO.fits, ⟨ownsRow_of_rowIs h.top (by omega) (by have := hN.len; unfold maxLen; omega), fun g hg => by simp [Value.ownBlock] at hg; omega, hN.len, fun k hk => ?_, fun i j hi hj hne g hg hg' => ?_⟩, fun k hk g hg hg' => ?_⟩
  · have e : outer (w.heap.size + 4) zss zss.length k = .slice (some ⟨w.heap.size + 4 + 1 + k, 0, none⟩) (row zss k).length (row zss k).length := by simp only [outer]; rw [if_pos hk]
    rw [e]
    exact OwnInts.of_rowIs (h.done k hk) (by omega) (by omega) (hN.rows k hk).len (hN.rows k hk).fits
  · simp only [outer] at hg hg'
    rw [if_pos hi] at hg
    rw [if_pos hj] at hg'
    simp [Value.ownBlock] at hg hg'
    omega
  · simp only [outer] at hg
    rw [if_pos hk] at hg
    simp [Value.ownBlock] at hg hg'
    omega

/-- n marks from k on. -/
def marks (k : Int) (n : Nat) : List Int := (List.range n).map fun i : Nat => k + (i : Int)
theorem marks_len (k : Int) (n : Nat) : (marks k n).length = n := by simp [marks]
theorem marks_nth {k : Int} {n i : Nat} (h : i < n) : nth (marks k n) i = k + i := by simp [nth, marks, h]

theorem list_ext {xs ys : List Int} (hl : xs.length = ys.length) (h : ∀ i, i < xs.length → nth xs i = nth ys i) : xs = ys := by
  apply List.ext_getElem hl
  intro i h1 h2
  have := h i h1
  rwa [nth_eq h1, nth_eq h2] at this

theorem nth_set {zs : List Int} {j i : Nat} {x : Int} (hj : j < zs.length) : nth (zs.set j x) i = if i = j then x else nth zs i := by
  unfold nth
  simp only [List.getD, List.getElem?_set]
  by_cases e : j = i
  · subst e; simp [hj]
  · rw [if_neg e, if_neg (fun h => e h.symm)]

theorem OwnInts.store {w : World} {B D g n cap : Nat} {zs : List Int} (h : OwnInts w B D (.slice (some ⟨g, 0, none⟩) n cap) zs) (hn : n = zs.length) {j : Nat} (_hj : j < zs.length) {x : Int} (hx : Fits x) :
    OwnInts (w.setCell ⟨g, j, none⟩ (.int .i64 x)) B D (.slice (some ⟨g, 0, none⟩) n cap) (zs.set j x) := by
  subst hn
  have ho := h.own
  obtain ⟨h1, _⟩ := ho.stored j (.int .i64 x)
  refine ⟨?_, h.top, by simpa using h.len, fun k hk => ?_⟩
  · rw [← List.map_set] at h1
    simpa using h1
  · rw [nth_set _hj]
    split
    · exact hx
    · exact h.fits k (by simpa using hk)

set_option maxHeartbeats 1000000 in
theorem markInt64S_is {w : World} {B D : Nat} {v : Value} {zs : List Int} (h : OwnInts w B D v zs) (k : Int) (_h0 : 0 ≤ k) (_h1 : k ≤ 1152921504606846976) :
    Calls Try.prog 46 #[v, .int .i64 k] w fun e w' => e = .returned (.int .i64 (k + zs.length)) ∧ OwnInts w' B D v (marks k zs.length) ∧ Only (fun b => v.ownBlock = some b) w w' := by
  obtain ⟨a, cap, hv, hI, hg⟩ := h.shape
  have hlen := h.len
  have HG := Lib.hid hg
  have HH : Hid (∃ zs', zs'.length = zs.length ∧ OwnInts w B D v zs' ∧ ∀ i, i < 0 → nth zs' i = k + i) := ⟨zs, rfl, h, fun i hi => absurd hi (Nat.not_lt_zero _)⟩
  have HV := Lib.hid hv
  clear h hI hg
  rw [hv]
  rw [hv] at HH HG
  have HO : Hid (Only (fun b => (Value.slice a zs.length cap).ownBlock = some b) w w) := Only.refl _ _
  clear hv
  go_enter Try.func46, Try.ntmps46
  go_wp2
  go_loopw [1, 5] (fun x i wr => ∃ j : Nat, j ≤ zs.length ∧ i = .int .i64 j ∧ x = .int .i64 (k + j) ∧ Hid (∃ zs', zs'.length = zs.length ∧ OwnInts wr B D (.slice a zs.length cap) zs' ∧ ∀ i, i < j → nth zs' i = k + i) ∧ Hid (Only (fun b => (Value.slice a zs.length cap).ownBlock = some b) w wr))
    (fun _ i _ => zs.length - (intOf i).toNat)
  case atStart => exact ⟨0, Nat.zero_le _, rfl, by simp, HH, HO⟩
  case round =>
    clear HH HO
    obtain ⟨j, hj, rfl, rfl, HH, HO⟩ := hrel
    by_cases hlt : j < zs.length
    · obtain ⟨g, ha, hgB, hgD, hgo, hfr⟩ := HG.out (by omega)
      subst ha
      have hHn : Hid (∃ zs', zs'.length = zs.length ∧ OwnInts (wr.setCell ⟨g, j, none⟩ (.int .i64 (k + j))) B D (.slice (some ⟨g, 0, none⟩) zs.length cap) zs' ∧ ∀ i, i < j + 1 → nth zs' i = k + i) := by
        obtain ⟨zs', hl, ho, hm⟩ := HH.out
        refine ⟨zs'.set j (k + j), by simpa using hl, ho.store hl.symm (by omega) (by unfold Fits; omega), fun i hi => ?_⟩
        rw [nth_set (by omega)]
        by_cases e : i = j
        · subst e; simp
        · rw [if_neg e]; exact hm i (by omega)
      have hOn : Hid (Only (fun b => (Value.slice (some ⟨g, 0, none⟩) zs.length cap).ownBlock = some b) w (wr.setCell ⟨g, j, none⟩ (.int .i64 (k + j)))) := HO.out.setCell (by simp [Value.ownBlock]) _
      obtain ⟨c, hc⟩ : ∃ c, wr.cell? ⟨g, j, none⟩ = some c := by
        obtain ⟨zs', hl, ho, hm⟩ := HH.out
        have ho' := ho.own
        rw [hl] at ho'
        exact ⟨_, (ho'.cellAt j (by omega)).trans (by simp [hl, hlt]; rfl)⟩
      have hf : wr.frozen? ⟨g, j, none⟩ = false := by
        obtain ⟨zs', hl, ho, hm⟩ := HH.out
        have ho' := ho.own
        rw [hl] at ho'
        exact ho'.frozenAt j
      clear hgo hfr
      go_wp2
      go_roundw
      case rel => exact ⟨j + 1, by omega, by go_num, by go_num, hHn, hOn⟩
      case measure => simp [intOf]; omega
    · have hjj : j = zs.length := by omega
      have HE : Hid (OwnInts wr B D (.slice a zs.length cap) (marks k zs.length)) := by
        obtain ⟨zs', hl, ho, hm⟩ := HH.out
        have : zs' = marks k zs.length := list_ext (by rw [hl, marks_len]) fun i hi => by rw [hm i (by omega), marks_nth (by omega)]
        rw [← this]; exact ho
      have HX : Hid (k + (j : Int) = k + (zs.length : Int)) := by rw [hjj]; rfl
      clear hjj
      go_wp2
      go_ret
      exact ⟨ret_i64 HX.out, HE.out, HO.out⟩

set_option maxHeartbeats 400000 in
theorem heldInt64S_is {w : World} {a : Option Addr} {zs : List Int} (k : Int) (cap : Nat) (h : IntsAt w a (marks k zs.length)) (_h0 : 0 ≤ k) (_h1 : k ≤ 1152921504606846976) :
    Calls Try.prog 47 #[.slice a zs.length cap, .int .i64 k] w fun e w' => e = .returned (.int .i64 (k + zs.length)) ∧ w = w' := by
  have hlen := h.len
  rw [marks_len] at hlen
  have HC := Lib.hid h.cell
  clear h
  go_enter Try.func47, Try.ntmps47
  go_wp2
  go_loop [1, 5] (fun x i => ∃ j : Nat, j ≤ zs.length ∧ i = .int .i64 j ∧ x = .int .i64 (k + j)) (fun _ i => zs.length - (intOf i).toNat)
  case atStart => exact ⟨0, Nat.zero_le _, rfl, by simp⟩
  case round =>
    obtain ⟨j, hj, rfl, rfl⟩ := hrel
    by_cases hlt : j < zs.length
    · obtain ⟨b, off, ha, hc⟩ := HC.out (by rw [marks_len]; omega)
      subst ha
      have hck := hc j (by rw [marks_len]; exact hlt)
      rw [marks_nth hlt] at hck
      clear hc
      have hn : (k + (j : Int) != k + (j : Int)) = false := by simp
      go_wp2
      go_round
      case rel => exact ⟨j + 1, by omega, by go_num, by go_num⟩
      case measure => simp [intOf]; omega
    · have HX : Hid (k + (j : Int) = k + (zs.length : Int)) := by have : j = zs.length := by omega
                                                                  rw [this]; rfl
      go_wp2
      go_ret
      exact ⟨ret_i64 HX.out, rfl⟩

/-- The rows' marks, from k on. -/
def markRows (k : Int) (zss : List (List Int)) : List (List Int) := (List.range zss.length).map fun j : Nat => marks (k + (sumLen zss j : Int)) (row zss j).length
theorem markRows_len (k : Int) (zss : List (List Int)) : (markRows k zss).length = zss.length := by simp [markRows]
theorem markRows_row {k : Int} {zss : List (List Int)} {j : Nat} (h : j < zss.length) : row (markRows k zss) j = marks (k + (sumLen zss j : Int)) (row zss j).length := by simp [row, markRows, h]

/-- j of the rows are marked. -/
structure Half (w wr : World) (B D : Nat) (v : Value) (V : Nat → Value) (zss : List (List Int)) (k : Int) (j : Nat) : Prop where
  own : wr.ownsRow B 27 1 v zss.length ((List.range zss.length).map V)
  done : ∀ i, i < j → i < zss.length → OwnInts wr B D (V i) (marks (k + (sumLen zss i : Int)) (row zss i).length)
  todo : ∀ i, j ≤ i → i < zss.length → OwnInts wr B D (V i) (row zss i)
  only : Only (fun b => ∃ i, i < zss.length ∧ (V i).ownBlock = some b) w wr

theorem Half.step {w wr w1 : World} {B D : Nat} {v : Value} {V : Nat → Value} {zss : List (List Int)} {k : Int} {j : Nat} (h : Half w wr B D v V zss k j) (hj : j < zss.length)
    (ap : ∀ i j, i < zss.length → j < zss.length → i ≠ j → ∀ g, (V i).ownBlock = some g → (V j).ownBlock ≠ some g)
    (h1 : OwnInts w1 B D (V j) (marks (k + (sumLen zss j : Int)) (row zss j).length)) (h2 : Only (fun b => (V j).ownBlock = some b) wr w1) : Half w w1 B D v V zss k (j + 1) := by
  refine ⟨ownsRow_only h.own h2 (own_types h.own (h.todo j (Nat.le_refl _) hj).own), fun i hi hin => ?_, fun i hi hin => (h.todo i (by omega) hin).only h2 (ap i j hin hj (by omega)), h.only.trans (h2.mono fun b hb => ⟨j, hj, hb⟩)⟩
  by_cases e : i = j
  · subst e; exact h1
  · exact (h.done i (by omega) hin).only h2 (ap i j hin hj e)

theorem sumLen_le {zss : List (List Int)} {j : Nat} (h : j < zss.length) : sumLen zss j ≤ sumLen zss zss.length := sumLen_mono zss (by omega)

set_option maxHeartbeats 1000000 in
theorem markInt64SS_is {w : World} {B D : Nat} {v : Value} {V : Nat → Value} {zss : List (List Int)} (h : OwnRows w B D v V zss) (k : Int) (_h0 : 0 ≤ k) (_h1 : k ≤ 1099511627776) (_h2 : sumLen zss zss.length ≤ 1099511627776) :
    Calls Try.prog 82 #[v, .int .i64 k] w fun e w' => e = .returned (.int .i64 (k + sumLen zss zss.length)) ∧ OwnRows w' B D v V (markRows k zss) ∧ Only (fun b => ∃ i, i < zss.length ∧ (V i).ownBlock = some b) w w' := by
  obtain ⟨a, cap, hv, hI, hVs⟩ := h.shape
  have hlen := h.len
  have HA := Lib.hid h.apart
  have HT := Lib.hid h.top
  have HX := Lib.hid hVs
  have HH : Hid (Half w w B D v V zss k 0) := ⟨h.own, fun i hi => absurd hi (Nat.not_lt_zero _), fun i _ hi => h.rows i hi, Only.refl _ _⟩
  clear h hI hVs
  subst hv
  go_enter Try.func82, Try.ntmps82
  go_wp2
  go_loopw [1, 5] (fun x i wr => ∃ (j : Nat) (m : Int), j ≤ zss.length ∧ i = .int .i64 j ∧ x = .int .i64 m ∧ 0 ≤ m ∧ m ≤ 2199023255552 ∧ Hid (m = k + sumLen zss j) ∧ Hid (Half w wr B D (.slice a zss.length cap) V zss k j)) (fun _ i _ => zss.length - (intOf i).toNat)
  case atStart => exact ⟨0, k, Nat.zero_le _, rfl, rfl, by omega, by omega, by simp [Hid, sumLen], HH⟩
  case round =>
    clear HH
    obtain ⟨j, m, hj, rfl, rfl, hm0, hm1, HM, HH⟩ := hrel
    by_cases hlt : j < zss.length
    · have hsl := sumLen_mono zss (show j + 1 ≤ zss.length from hlt)
      have HM' : Hid (m + ((row zss j).length : Int) = k + sumLen zss (j + 1)) := by have := HM.out; simp only [Hid, sumLen]; omega
      have hm2 : m + ((row zss j).length : Int) ≤ 2199023255552 := by have := HM'.out; omega
      clear hsl
      have hVj := HX.out j hlt
      obtain ⟨g, ha⟩ : ∃ g, a = some ⟨g, 0, none⟩ := by
        rcases HH.out.own.2 with ⟨hv, h0⟩ | ⟨g, cap', cur, hv, _⟩
        · omega
        · simp only [Value.slice.injEq] at hv
          exact ⟨g, hv.1⟩
      subst ha
      have hck : wr.cell? ⟨g, j, none⟩ = some (.slice (addrOf (V j)) (row zss j).length (capOf (V j))) := by
        rw [HH.out.own.cellAt j (by omega), ← hVj]
        simp [hlt]
      have hmk := markInt64S_is (HH.out.todo j (Nat.le_refl _) hlt) m hm0 (by omega)
      rw [hVj] at hmk
      have HK := Lib.hid hmk
      have HVj := Lib.hid hVj
      clear hmk hVj
      go_wp2_with (go_at_call 46; refine HK.out.mono ?_; rintro e w1 ⟨rfl, h1, h2⟩; rw [← HVj.out] at h1 h2; rw [HM.out] at h1; have HN := Lib.hid (HH.out.step hlt HA.out h1 h2); clear h1 h2)
      go_roundw
      case rel => exact ⟨j + 1, _, by omega, by go_num, rfl, by omega, hm2, HM', HN⟩
      case measure => simp [intOf]; omega
    · have hjj : j = zss.length := by omega
      have HE : Hid (OwnRows wr B D (.slice a zss.length cap) V (markRows k zss)) := by
        subst hjj
        refine ⟨by rw [markRows_len]; exact HH.out.own, HT.out, by rw [markRows_len]; exact hlen, fun i hi => ?_, fun i j hi hj => ?_⟩
        · rw [markRows_len] at hi
          rw [markRows_row hi]
          exact HH.out.done i hi hi
        · rw [markRows_len] at hi hj
          exact HA.out i j hi hj
      have HY : Hid (m = k + (sumLen zss zss.length : Int)) := by rw [← hjj]; exact HM.out
      clear hjj
      go_wp2
      go_ret
      exact ⟨ret_i64 HY.out, HE.out, HH.out.only⟩

set_option maxHeartbeats 1000000 in
theorem heldInt64SS_is {w : World} {a : Option Addr} {A : Nat → Option Addr} {C : Nat → Nat} {zss : List (List Int)} (k : Int) (cap : Nat) (h : RowsAt w a A C (markRows k zss)) (_h0 : 0 ≤ k) (_h1 : k ≤ 1099511627776) (_h2 : sumLen zss zss.length ≤ 1099511627776) :
    Calls Try.prog 83 #[.slice a zss.length cap, .int .i64 k] w fun e w' => e = .returned (.int .i64 (k + sumLen zss zss.length)) ∧ w = w' := by
  have hlen := h.len
  rw [markRows_len] at hlen
  have HR := Lib.hid h
  clear h
  go_enter Try.func83, Try.ntmps83
  go_wp2
  go_loop [1, 5] (fun x i => ∃ (j : Nat) (m : Int), j ≤ zss.length ∧ i = .int .i64 j ∧ x = .int .i64 m ∧ 0 ≤ m ∧ m ≤ 2199023255552 ∧ Hid (m = k + sumLen zss j)) (fun _ i => zss.length - (intOf i).toNat)
  case atStart => exact ⟨0, k, Nat.zero_le _, rfl, rfl, by omega, by omega, by simp [Hid, sumLen]⟩
  case round =>
    obtain ⟨j, m, hj, rfl, rfl, hm0, hm1, HM⟩ := hrel
    by_cases hlt : j < zss.length
    · have hsl := sumLen_mono zss (show j + 1 ≤ zss.length from hlt)
      have HM' : Hid (m + ((row zss j).length : Int) = k + sumLen zss (j + 1)) := by have := HM.out; simp only [Hid, sumLen]; omega
      have hm2 : m + ((row zss j).length : Int) ≤ 2199023255552 := by have := HM'.out; omega
      have hm3 : 0 ≤ m + ((row zss j).length : Int) := by omega
      clear hsl
      obtain ⟨b, off, ha, hc⟩ := HR.out.cell (by rw [markRows_len]; omega)
      subst ha
      have hck := hc j (by rw [markRows_len]; exact hlt)
      rw [markRows_row hlt, marks_len] at hck
      have hrr := HR.out.rows j (by rw [markRows_len]; exact hlt)
      rw [markRows_row hlt, ← HM.out] at hrr
      clear hc
      have HK := Lib.hid (heldInt64S_is m (C j) hrr hm0 (by omega))
      clear hrr
      go_wp2_with (go_at_call 47; refine HK.out.mono ?_; rintro e w1 ⟨rfl, rfl⟩)
      go_round
      case rel => exact ⟨j + 1, _, by omega, by go_num, rfl, hm3, hm2, HM'⟩
      case measure => simp [intOf]; omega
    · have HY : Hid (m = k + (sumLen zss zss.length : Int)) := by have : j = zss.length := by omega
                                                                  rw [← this]; exact HM.out
      go_wp2
      go_ret
      exact ⟨ret_i64 HY.out, rfl⟩

set_option maxHeartbeats 1000000 in
theorem markArena_is {w : World} {B D : Nat} {v : Value} {O : List Int} {zss : List (List Int)} (h : OwnArena w B D v O zss) (k : Int) (_h0 : 0 ≤ k) (_h1 : k ≤ 1073741824) (_h2 : O.length ≤ 1048576) (_h3 : sumLen zss zss.length ≤ 1048576) :
    Calls Try.prog 33 #[v, .int .i64 k] w fun e w' => e = .returned (.int .i64 (k + O.length + sumLen zss zss.length)) ∧ OwnArena w' B D v (marks k O.length) (markRows (k + O.length) zss) ∧ Only (fun b => B ≤ b ∧ b < D) w w' := by
  obtain ⟨vo, vn, V, rfl, h1, h2, h3⟩ := h
  obtain ⟨a, cap, rfl, hI, _⟩ := h1.shape
  obtain ⟨a', cap', rfl, hR, _⟩ := h2.shape
  have HV := Lib.hid h3
  have HI := Lib.hid h1
  have HR := Lib.hid h2
  clear h1 h2 h3 hI hR
  go_enter Try.func33, Try.ntmps33
  go_wp2_with fail
  refine (markInt64S_is (HI.out.below (below1 _ _)) k _h0 (by omega)).mono ?_
  rintro e w1 ⟨rfl, g1, g2⟩
  have g2' : Only (fun b => B ≤ b ∧ b < D) w w1 := (Only.of_below (below1 _ _)).trans (g2.mono fun b hb => ⟨(HI.out.own.lt b hb).1, HI.out.top b hb⟩)
  have hb0 : Box2 w1 w.heap.size 30 (.slice a O.length cap) (.slice a' zss.length cap') := by
    refine (g2.block _ (by simp) (fun hb => ?_)).trans (Box2.new w _ _ _)
    have := (HI.out.own.lt _ hb).2
    omega
  have hR1 : OwnRows w1 B D (.slice a' zss.length cap') V zss := (HR.out.below (below1 w _)).only g2 (own_types HR.out.own HI.out.own) (fun k hk g hg => HV.out k hk g hg)
  have HB := Lib.hid g2'
  have H1 := Lib.hid g1
  have HR1 := Lib.hid hR1
  have c0 := hb0.cell0
  have c1 := hb0.cell1
  clear g1 g2 g2' hb0 hR1
  go_wp2_with fail
  refine (markInt64SS_is HR1.out (k + O.length) (by omega) (by omega) (by omega)).mono ?_
  rintro e w2 ⟨rfl, g1, g2⟩
  have hfin : Hid (OwnArena w2 B D (.agg #[.slice a O.length cap, .slice a' zss.length cap']) (marks k O.length) (markRows (k + O.length) zss)) :=
    ⟨_, _, V, rfl, H1.out.only g2 (fun g hg ⟨i, hi, hg'⟩ => HV.out i hi g hg' hg), g1, fun i hi g hg => HV.out i (by rw [markRows_len] at hi; exact hi) g hg⟩
  have hB2 : Hid (Only (fun b => B ≤ b ∧ b < D) w w2) := HB.out.trans (g2.mono fun b ⟨i, hi, hb⟩ => ⟨((HR1.out.rows i hi).own.lt b hb).1, (HR1.out.rows i hi).top b hb⟩)
  clear g1 g2
  go_wp2
  go_ret
  exact ⟨rfl, hfin.out, hB2.out⟩

set_option maxHeartbeats 1000000 in
theorem heldArena_is {w : World} {v : Value} {O : List Int} {zss : List (List Int)} (k : Int) (h : ArenaAt w v (marks k O.length) (markRows (k + O.length) zss)) (_h0 : 0 ≤ k) (_h1 : k ≤ 1073741824) (_h2 : O.length ≤ 1048576) (_h3 : sumLen zss zss.length ≤ 1048576) :
    Calls Try.prog 34 #[v, .int .i64 k] w fun e w' => e = .returned (.int .i64 (k + O.length + sumLen zss zss.length)) ∧ Below w.heap.size w w' := by
  obtain ⟨ao, an, co, cn, A, C, rfl, h1, h2⟩ := h
  rw [marks_len, markRows_len]
  have H1 := Lib.hid (heldInt64S_is (zs := O) k co (h1.alloc (.cells #[.slice ao O.length co, .slice an zss.length cn] 30)) _h0 (by omega))
  have H2 := Lib.hid (heldInt64SS_is (zss := zss) (k + O.length) cn (h2.alloc (.cells #[.slice ao O.length co, .slice an zss.length cn] 30)) (by omega) (by omega) (by omega))
  clear h1 h2
  go_enter Try.func34, Try.ntmps34
  go_wp2_with (first | (go_at_call 47; refine H1.out.mono ?_; rintro e w1 ⟨rfl, rfl⟩) | (go_at_call 83; refine H2.out.mono ?_; rintro e w1 ⟨rfl, rfl⟩))
  go_ret
  exact ⟨rfl, below1 _ _⟩

end Go.Proofs.Ytmobegiojhlakaa
