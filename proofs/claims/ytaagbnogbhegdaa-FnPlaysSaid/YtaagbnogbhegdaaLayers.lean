/-
  Contract of chapter 3: the program's waits.
-/
import Derived.Test.YtaagbnogbhegdaaTrap1
import Derived.Test.YtaagbnogbhegdaaZielonka
namespace Go.Proofs.Ytaagbnogbhegdaa
section
open Go.RowKit

/-- What waits says of a vertex that is asked for. -/
def startW (O : List Int) (zss : List (List Int)) (who : Int) (In : List Int) (u : Nat) : Int := if nth O u = who then 1 else ((row zss u).filter (inT In)).length
/-- What waits says while the first k have been read. -/
def startF (O : List Int) (zss : List (List Int)) (who : Int) (In : List Int) (k u : Nat) : Int := if openS In k u = true then startW O zss who In u else 0

theorem startF_succ {O : List Int} {zss : List (List Int)} {who : Int} {In : List Int} {k u : Nat} (hk : k < In.length) (hu : nth In k = (u : Int)) (i : Nat) :
    startF O zss who In (k + 1) i = if i = u then startW O zss who In u else startF O zss who In k i := by
  unfold startF
  rw [openS_at hk hu]
  by_cases e : i = u
  · subst e; simp
  · simp [e]

theorem OwnF.start (w : World) {B : Nat} (hB : B ≤ w.heap.size) (n : Nat) (hn : n ≤ 1048576) : OwnF (w.alloc (.cells (madeCells #[.int .i64 0] n) 2)) B w.heap.size n n (fun _ => 0) := by
  have h : (w.alloc (.cells (madeCells #[.int .i64 0] n) 2)).rowIs w.heap.size 2 (fnL n fun _ => 0).length (fun i => .int .i64 (nth (fnL n fun _ => 0) i)) := by
    rw [fnL_len]
    exact (World.rowIs_made w _ _ _).congr (fun i hi => by rw [fnL_nth hi])
  have := OwnInts.of_rowIs (B := B) (D := (w.alloc (.cells (madeCells #[.int .i64 0] n) 2)).heap.size) h hB (by simp) (by rw [fnL_len]; omega) (fun k hk => by rw [fnL_len] at hk; rw [fnL_nth hk]; unfold Fits; omega)
  rw [fnL_len] at this
  exact this

end

section
open Go.RowKit

section
variable {O : List Int} {zss : List (List Int)} {who : Int} {In G : List Int}

/-- Where no vertex has the rank r, none has a greater one. -/
theorem layers_end (hz : InG zss) {I Gl : Nat → Bool} {r : Nat} (h : ∀ v, v < zss.length → rkK zss O who I Gl zss.length v ≠ r) : ∀ v, v < zss.length → (DoneR (rkK zss O who I Gl zss.length) r v ↔ 0 ≤ rkK zss O who I Gl zss.length v) := by
  have key : ∀ j v, v < zss.length → (DoneR (rkK zss O who I Gl zss.length) (r + 1 + j) v ↔ DoneR (rkK zss O who I Gl zss.length) r v) := fun j => by
    induction j with
    | zero =>
      intro v hv
      have := h v hv
      unfold DoneR
      constructor
      · rintro ⟨h1, h2⟩; exact ⟨h1, by omega⟩
      · rintro ⟨h1, h2⟩; exact ⟨h1, by omega⟩
    | succ j ih =>
      intro v hv
      rw [← ih v hv, show r + 1 + (j + 1) = (r + 1 + j) + 1 by omega, doneR_succ hz (r + 1 + j) hv]
      rw [show r + 1 + j = (r + j) + 1 by omega, doneR_succ hz (r + j) hv]
      refine QueP.congr fun x hx => ?_
      obtain ⟨y, rfl, hy⟩ := hz v hv x hx
      rw [Int.toNat_natCast, show r + j + 1 = r + 1 + j by omega, ih y hy]
      cases j with
      | zero => exact Iff.rfl
      | succ i =>
        have hb := h y hy
        have hi := ih y hy
        unfold DoneR at *
        constructor
        · rintro ⟨h1, h2⟩; exact ⟨h1, by omega⟩
        · rintro ⟨h1, h2⟩; exact hi.1 ⟨h1, by omega⟩
  intro v hv
  constructor
  · exact fun hh => hh.1
  · intro h0
    have hb := rkK_bound (zss := zss) (O := O) (who := who) (I := I) (G := Gl) zss.length v
    exact (key zss.length v hv).1 ⟨h0, by omega⟩

theorem openS_mem (S : List Int) (i : Nat) : openS S S.length i = true ↔ (i : Int) ∈ S := by simp [openS]
theorem inT_iff {S : List Int} {x : Int} : inT S x = true ↔ x ∈ S := by unfold inT; exact hasB_iff

/-- The first layer. -/
def lay0 (In G : List Int) : List Int := In.filter (inT G)

theorem verts_of {n : Nat} {S : List Int} (h : setB n S = true) : VertsP n S where
  once := by
    rw [List.Nodup, List.pairwise_iff_getElem]
    intro i j hi hj hij e
    have hb := (setB_bounds h hj).2.2 i hij
    rw [nth_eq hi, nth_eq hj] at hb
    omega
  all := fun x hx => by
    obtain ⟨k, hk, e⟩ := mem_nth.1 hx
    obtain ⟨h1, h2, _⟩ := setB_bounds h hk
    exact ⟨x.toNat, by omega, by omega⟩
theorem VertsP.filter {n : Nat} {S : List Int} (h : VertsP n S) (p : Int → Bool) : VertsP n (S.filter p) :=
  ⟨h.once.filter p, fun x hx => h.all x (List.mem_filter.1 hx).1⟩

theorem lay0_is (hz : InG zss) (hI : setB zss.length In = true) : LayP zss.length (rkK zss O who (openS In In.length) (openS G G.length) zss.length) 0 (lay0 In G) := by
  refine ⟨(verts_of hI).filter _, fun v hv => ?_⟩
  have h := doneR_is (O := O) (who := who) (I := openS In In.length) (G := openS G G.length) hz 0 hv
  unfold lay0
  rw [List.mem_filter, inT_iff]
  rw [rkK] at h
  have e : (openS In In.length v = true ∧ openS G G.length v = true) ↔ ((v : Int) ∈ In ∧ (v : Int) ∈ G) := by simp [openS]
  unfold DoneR at h
  constructor
  · intro hh
    rw [if_pos (e.2 hh)] at h
    have := h.2 (by omega)
    omega
  · intro hh
    refine e.1 (Classical.byContradiction fun hn => ?_)
    rw [if_neg hn] at h
    have := h.1 ⟨by omega, by omega⟩
    omega

/-- What is waited for while the first layer is struck out. -/
def zeroF (O : List Int) (zss : List (List Int)) (who : Int) (In G : List Int) (k u : Nat) : Int := if (u : Int) ∈ (lay0 In G).take k then 0 else startF O zss who In In.length u

theorem zeroF_succ {k u : Nat} (hk : k < (lay0 In G).length) (hu : nth (lay0 In G) k = (u : Int)) (i : Nat) : zeroF O zss who In G (k + 1) i = if i = u then 0 else zeroF O zss who In G k i := by
  unfold zeroF
  rw [take_snoc hk, hu]
  by_cases e : i = u
  · subst e; rw [if_pos (by simp), if_pos rfl]
  · have e' : ((i : Int) = u) ↔ False := ⟨fun h => e (Int.natCast_inj.1 h), False.elim⟩
    rw [if_neg e]
    simp only [List.mem_append, List.mem_singleton, e', or_false]

theorem mid0_is (hz : RowsP zss) : MidP zss O who (openS In In.length) (openS G G.length) (rkK zss O who (openS In In.length) (openS G G.length) zss.length) 0 0 (lay0 In G) [] (zeroF O zss who In G (lay0 In G).length) where
  waits := fun v hv => by
    have hP : ∀ x, ¬ PastP (rkK zss O who (openS In In.length) (openS G G.length) zss.length) 0 (lay0 In G) 0 x := fun x hx => by
      rcases hx with h | h
      · unfold DoneR at h; omega
      · simp at h
    have hI : openS In In.length v = true ↔ (v : Int) ∈ In := openS_mem In v
    have hG : openS G G.length v = true ↔ (v : Int) ∈ G := openS_mem G v
    unfold zeroF startF waitF
    rw [List.take_length]
    have hL : (v : Int) ∈ lay0 In G ↔ (v : Int) ∈ In ∧ (v : Int) ∈ G := by unfold lay0; rw [List.mem_filter, inT_iff]
    by_cases h1 : (v : Int) ∈ In
    · by_cases h2 : (v : Int) ∈ G
      · rw [if_pos (hL.2 ⟨h1, h2⟩), if_neg (fun hh => by rw [hG.2 h2] at hh; cases hh.2)]
      · have h3 : openS G G.length v = false := by
          cases hg : openS G G.length v with
          | false => rfl
          | true => exact absurd (hG.1 hg) h2
        rw [if_neg (fun hh => h2 (hL.1 hh).2), if_pos (hI.2 h1), if_pos ⟨hI.2 h1, h3⟩]
        unfold startW ownB
        by_cases ho : nth O v = who
        · rw [if_pos ho, if_pos (by simpa using ho), if_neg (fun ⟨x, _, _, hx⟩ => hP _ hx)]
        · rw [if_neg ho, if_neg (by simpa using ho)]
          congr 2
          refine List.filter_congr fun x hx => ?_
          rw [inT_open (hz.pos hv x hx)]
          simp [hP]
    · rw [if_neg (fun hh => h1 (hL.1 hh).1), if_neg (fun hh => h1 (hI.1 hh)), if_neg (fun hh => h1 (hI.1 hh.1))]
  verts := VertsP.nil _
  is := fun v hv => by
    have hq : QueP zss O who (openS In In.length) (openS G G.length) (PastP (rkK zss O who (openS In In.length) (openS G G.length) zss.length) 0 (lay0 In G) 0) v ↔ DoneR (rkK zss O who (openS In In.length) (openS G G.length) zss.length) (0 + 1) v := by
      rw [doneR_succ hz.inG 0 hv]
      exact QueP.congr fun x _ => by unfold PastP; simp
    rw [hq]
    simp

end

theorem pastP_full {n : Nat} {R : Nat → Int} {r : Nat} {L ab : List Int} (hL : LayP n R r L) {x : Nat} (hx : x < n) : PastP R r L L.length x ↔ PastP R (r + 1) ab 0 x := by
  unfold PastP
  rw [List.take_length, hL.is x hx, List.take_zero]
  unfold DoneR
  simp only [List.not_mem_nil, or_false]
  constructor
  · rintro (hh | hh) <;> omega
  · intro hh
    by_cases e : R x = r
    · exact .inr e
    · exact .inl (by omega)

/-- What an attractor hands on at a time: a vertex and its rank. -/
def encR (x : Nat × Nat) : Array Value := #[.int .i64 (x.1 : Int), .int .i64 (x.2 : Int)]
/-- What may be handed on. -/
def OkR (n : Nat) (R : Nat → Int) (pre : List (Nat × Nat)) (x : Nat × Nat) : Prop := pre.length < n ∧ x.1 < n ∧ R x.1 = (x.2 : Int) ∧ x.2 ≤ n
end

end Go.Proofs.Ytaagbnogbhegdaa
