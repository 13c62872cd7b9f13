/-
  Contract of chapter 3: the program's waits.
-/
import Derived.Test.YtaoagikipbcjpaaEscapes
import Derived.Test.YtaoagikipbcjpaaZielonka
namespace Go.Proofs.Ytaoagikipbcjpaa
section
open Go.RowKit

/-- What waits says of a vertex that is asked for. -/
def startW (O : List Int) (zss : List (List Int)) (who : Int) (In : List Int) (u : Nat) : Int := if nth O u = who then 1 else ((row zss u).filter (inT In)).length
/-- What waits says while the first k have been read. -/
def startF (O : List Int) (zss : List (List Int)) (who : Int) (In : List Int) (k u : Nat) : Int := if openS In k u = true then startW O zss who In u else 0

theorem startF_succ {O : List Int} {zss : List (List Int)} {who : Int} {In : List Int} {k u : Nat} (hk : k < In.length) (hu : nth In k = (u : Int)) (i : Nat) :
    startF O zss who In (k + 1) i = if i = u then startW O zss who In u else startF O zss who In k i := by
  unfold startF
  rw [openS_at hk hu]
  by_cases e : i = u
  · subst e; simp
  · simp [e]

theorem OwnF.start (w : World) {B : Nat} (hB : B ≤ w.heap.size) (n : Nat) (hn : n ≤ 1048576) : OwnF (w.alloc (.cells (madeCells #[.int .i64 0] n) 2)) B w.heap.size n n (fun _ => 0) := by
  have h : (w.alloc (.cells (madeCells #[.int .i64 0] n) 2)).rowIs w.heap.size 2 (fnL n fun _ => 0).length (fun i => .int .i64 (nth (fnL n fun _ => 0) i)) := by
    rw [fnL_len]
    exact (World.rowIs_made w _ _ _).congr (fun i hi => by rw [fnL_nth hi])
  have := OwnInts.of_rowIs (B := B) (D := (w.alloc (.cells (madeCells #[.int .i64 0] n) 2)).heap.size) h hB (by simp) (by rw [fnL_len]; omega) (fun k hk => by rw [fnL_len] at hk; rw [fnL_nth hk]; unfold Fits; omega)
  rw [fnL_len] at this
  exact this

set_option maxHeartbeats 8000000 in
set_option maxRecDepth 100000 in
theorem waits_is {w : World} {va : Value} {O : List Int} {zss : List (List Int)} {n0 : Int} {aI : Option Addr} {In : List Int} (cI : Nat) (hP : ArenaP O zss) (hIB : setB O.length In = true) (h : ArenaAt w va O zss) (hI : IntsAt w aI In) :
    Calls Try.prog 41 #[va, .int .i64 n0, .slice aI In.length cI] w fun e w' => ∃ g, e = .returned (.slice (some ⟨g, 0, none⟩) O.length O.length) ∧ OwnF w' w.heap.size g O.length O.length (startF O zss n0 In In.length) ∧ Below w.heap.size w w' := by
  have hzO := hP.2.2.1
  have hO256 := hP.2.1
  have HSN := Lib.hid (set_nats hIB)
  have HSR := Lib.hid (rises_of hIB)
  have HR16 : Hid (∀ u : Nat, u < zss.length → (row zss u).length ≤ 16) := fun u hu => (hP.2.2.2 u (by omega)).2.2.1
  have HAt := Lib.hid h
  have HSi := Lib.hid hI
  have hIl := hI.len
  obtain ⟨ao, an, co, cn, A, C, rfl, h1, h2⟩ := h
  have HOi := Lib.hid h1
  have HNi := Lib.hid h2
  have hmk := run_make_row' (P := Try.prog) 27 2 (.int .i64 0) 8 Try.underlying27 info_int rfl .i64 .i64 O.length (by omega) (by omega)
  have HZ := Lib.hid (size_is ao an O.length zss.length co cn (w.alloc (.cells #[.slice ao O.length co, .slice an zss.length cn] 30)) (by omega))
  obtain ⟨w3, hw3⟩ : ∃ y, y = ((w.alloc (.cells #[.slice ao O.length co, .slice an zss.length cn] 30)).alloc (.cells #[.slice ao O.length co, .slice an zss.length cn] 30)).alloc (.cells (madeCells #[.int .i64 0] O.length) 2) := ⟨_, rfl⟩
  have HW3 := Lib.hid hw3
  have B3 : Hid (Below w.heap.size w w3) := by rw [hw3]; exact (below2 _ _ _).alloc (by simp; omega) _
  have b3 : Hid (Box2 w3 w.heap.size 30 (.slice ao O.length co) (.slice an zss.length cn)) := by rw [hw3]; exact ((Box2.new _ _ _ _).alloc _).alloc _
  have F3 : Hid (OwnF w3 (w.heap.size + 1) (w.heap.size + 1 + 1) O.length O.length (startF O zss n0 In 0)) := by
    have h := OwnF.start ((w.alloc (.cells #[.slice ao O.length co, .slice an zss.length cn] 30)).alloc (.cells #[.slice ao O.length co, .slice an zss.length cn] 30)) (B := w.heap.size + 1) (by simp) O.length (by omega)
    rw [← hw3] at h
    simp only [World.size_alloc] at h
    exact h.congr fun i _ => by simp [startF, openS]
  have HZO := Lib.hid hzO
  clear h1 h2 hI hP hIB hzO hw3
  go_enter Try.func41, Try.ntmps41
  go_wp2_with (go_at_call 38; refine HZ.out.mono ?_; rintro e w' ⟨rfl, rfl⟩)
  rw [← HW3.out]
  go_loopw [17] (fun i wr => ∃ (k : Nat), k ≤ In.length ∧ i = .int .i64 k ∧ Hid (OwnF wr (w.heap.size + 1) (w.heap.size + 1 + 1) O.length O.length (startF O zss n0 In k)) ∧ Hid (Below w.heap.size w wr) ∧ Hid (Box2 wr w.heap.size 30 (.slice ao O.length co) (.slice an zss.length cn))) (fun i _ => In.length - (intOf i).toNat)
  case atStart => exact ⟨0, Nat.zero_le _, rfl, F3, B3, b3⟩
  case round =>
    clear B3 b3 F3 hmk HZ
    obtain ⟨k, hk, rfl, HF, HB, HT⟩ := hrel
    by_cases hlt : k < In.length
    · have hi1 : (k : Int) < In.length := by omega
      have hk0 : (0 : Int) ≤ (k : Int) := by omega
      obtain ⟨sb, so, hsa, hsc⟩ := (HSi.out.below HB.out).cell (by omega)
      have s1 := hsc k hlt
      obtain ⟨u, hu, hul⟩ := HSN.out _ (nth_mem hlt)
      rw [hu] at s1
      subst hsa
      have HU := Lib.hid hu
      clear hsc hu
      have huz : u < zss.length := by rw [HZO.out]; exact hul
      have huO : (u : Int) < O.length := by omega
      have huZ : (u : Int) < zss.length := by omega
      have hu0 : (0 : Int) ≤ (u : Int) := by omega
      have h16 := HR16.out u huz
      obtain ⟨nb, no, hna, hnc⟩ := (HNi.out.below HB.out).cell (by omega)
      have n1 := hnc u huz
      subst hna
      clear hnc
      obtain ⟨ob, oo, hoa, hoc⟩ := (HOi.out.below HB.out).cell (by omega)
      have o1 := hoc u hul
      subst hoa
      clear hoc
      have t0 := HT.out.cell0
      have t1 := HT.out.cell1
      by_cases how : nth O u = n0
      · have hoe : (nth O u == n0) = true := by simpa using how
        have HFn : Hid (OwnF (wr.setCell ⟨w.heap.size + 1 + 1, u, none⟩ (.int .i64 1)) (w.heap.size + 1) (w.heap.size + 1 + 1) O.length O.length (startF O zss n0 In (k + 1))) :=
          (HF.out.put (u := u) (x := 1) (by unfold Fits; omega)).congr fun i _ => by rw [startF_succ hlt HU.out]; unfold startW; rw [if_pos how]
        have HBn : Hid (Below w.heap.size w (wr.setCell ⟨w.heap.size + 1 + 1, u, none⟩ (.int .i64 1))) := HB.out.setCell (by show w.heap.size ≤ w.heap.size + 1 + 1; omega) _
        have HTn : Hid (Box2 (wr.setCell ⟨w.heap.size + 1 + 1, u, none⟩ (.int .i64 1)) w.heap.size 30 _ _) := HT.out.other (by show w.heap.size ≠ w.heap.size + 1 + 1; omega) _
        have fc := HF.out.cell hul
        have ff := HF.out.frozen u
        clear how
        go_wp2
        go_roundw
        case rel => exact ⟨k + 1, by omega, by go_num, HFn, HBn, HTn⟩
        case measure => simp [intOf]; omega
      · have hoe : (nth O u == n0) = false := by simpa using how
        have HSP := Lib.hid (split_is (C u) cI ((HNi.out.below HB.out).rows u huz) (HSi.out.below HB.out) HSR.out (by omega))
        obtain ⟨li, hli⟩ : ∃ li, li = ((row zss u).filter (inT In)).length := ⟨_, rfl⟩
        have hl16 : li ≤ 16 := by rw [hli]; exact Nat.le_trans (List.length_filter_le _ _) h16
        have HLI := Lib.hid hli
        have HOW := Lib.hid how
        clear how hli
        go_wp2_with (go_at_call 40; refine HSP.out.mono ?_; rintro e w5 ⟨uI, uO, rfl, hI, hO, hb⟩; obtain ⟨aI', cI', rfl, -⟩ := hI.shape; obtain ⟨aO', cO', rfl, -⟩ := hO.shape; rw [← HLI.out]; have HB5 := Lib.hid (HB.out.trans (hb.mono HB.out.size)); have T5 := Lib.hid (HT.out.below hb); have HF5 : Hid (OwnF _ _ _ _ _ _) := HF.out.only (S := fun _ => False) (Only.of_below hb) (fun h => h); have fc := HF5.out.cell hul; have ff := HF5.out.frozen u; clear hI hO hb)
        have HFn : Hid (OwnF (w5.setCell ⟨w.heap.size + 1 + 1, u, none⟩ (.int .i64 li)) (w.heap.size + 1) (w.heap.size + 1 + 1) O.length O.length (startF O zss n0 In (k + 1))) :=
          (HF5.out.put (u := u) (x := li) (by unfold Fits; omega)).congr fun i _ => by rw [startF_succ hlt HU.out]; unfold startW; rw [if_neg HOW.out, ← HLI.out]
        have HBn : Hid (Below w.heap.size w (w5.setCell ⟨w.heap.size + 1 + 1, u, none⟩ (.int .i64 li))) := HB5.out.setCell (by show w.heap.size ≤ w.heap.size + 1 + 1; omega) _
        have HTn : Hid (Box2 (w5.setCell ⟨w.heap.size + 1 + 1, u, none⟩ (.int .i64 li)) w.heap.size 30 _ _) := T5.out.other (by show w.heap.size ≠ w.heap.size + 1 + 1; omega) _
        go_roundw
        case rel => exact ⟨k + 1, by omega, by go_num, HFn, HBn, HTn⟩
        case measure => simp [intOf]; omega
    · have hkk : k = In.length := by omega
      have hfin := Lib.hid (And.intro HF.out HB.out)
      rw [hkk] at hfin
      clear hkk
      go_wp2
      go_ret
      exact ⟨_, rfl, OwnInts.base hfin.out.1 (by omega), hfin.out.2⟩
end

section
open Go.RowKit

section
variable {O : List Int} {zss : List (List Int)} {who : Int} {In G : List Int}

/-- Where no vertex has the rank r, none has a greater one. -/
theorem layers_end (hz : InG zss) {I Gl : Nat → Bool} {r : Nat} (h : ∀ v, v < zss.length → rkK zss O who I Gl zss.length v ≠ r) : ∀ v, v < zss.length → (DoneR (rkK zss O who I Gl zss.length) r v ↔ 0 ≤ rkK zss O who I Gl zss.length v) := by
  have key : ∀ j v, v < zss.length → (DoneR (rkK zss O who I Gl zss.length) (r + 1 + j) v ↔ DoneR (rkK zss O who I Gl zss.length) r v) := fun j => by
    induction j with
    | zero =>
      intro v hv
      have := h v hv
      unfold DoneR
      constructor
      · rintro ⟨h1, h2⟩; exact ⟨h1, by omega⟩
      · rintro ⟨h1, h2⟩; exact ⟨h1, by omega⟩
    | succ j ih =>
      intro v hv
      rw [← ih v hv, show r + 1 + (j + 1) = (r + 1 + j) + 1 by omega, doneR_succ hz (r + 1 + j) hv]
      rw [show r + 1 + j = (r + j) + 1 by omega, doneR_succ hz (r + j) hv]
      refine QueP.congr fun x hx => ?_
      obtain ⟨y, rfl, hy⟩ := hz v hv x hx
      rw [Int.toNat_natCast, show r + j + 1 = r + 1 + j by omega, ih y hy]
      cases j with
      | zero => exact Iff.rfl
      | succ i =>
        have hb := h y hy
        have hi := ih y hy
        unfold DoneR at *
        constructor
        · rintro ⟨h1, h2⟩; exact ⟨h1, by omega⟩
        · rintro ⟨h1, h2⟩; exact hi.1 ⟨h1, by omega⟩
  intro v hv
  constructor
  · exact fun hh => hh.1
  · intro h0
    have hb := rkK_bound (zss := zss) (O := O) (who := who) (I := I) (G := Gl) zss.length v
    exact (key zss.length v hv).1 ⟨h0, by omega⟩

theorem openS_mem (S : List Int) (i : Nat) : openS S S.length i = true ↔ (i : Int) ∈ S := by simp [openS]
theorem inT_iff {S : List Int} {x : Int} : inT S x = true ↔ x ∈ S := by unfold inT; exact hasB_iff

/-- The first layer. -/
def lay0 (In G : List Int) : List Int := In.filter (inT G)

theorem verts_of {n : Nat} {S : List Int} (h : setB n S = true) : VertsP n S where
  once := by
    rw [List.Nodup, List.pairwise_iff_getElem]
    intro i j hi hj hij e
    have hb := (setB_bounds h hj).2.2 i hij
    rw [nth_eq hi, nth_eq hj] at hb
    omega
  all := fun x hx => by
    obtain ⟨k, hk, e⟩ := mem_nth.1 hx
    obtain ⟨h1, h2, _⟩ := setB_bounds h hk
    exact ⟨x.toNat, by omega, by omega⟩
theorem VertsP.filter {n : Nat} {S : List Int} (h : VertsP n S) (p : Int → Bool) : VertsP n (S.filter p) :=
  ⟨h.once.filter p, fun x hx => h.all x (List.mem_filter.1 hx).1⟩

theorem lay0_is (hz : InG zss) (hI : setB zss.length In = true) : LayP zss.length (rkK zss O who (openS In In.length) (openS G G.length) zss.length) 0 (lay0 In G) := by
  refine ⟨(verts_of hI).filter _, fun v hv => ?_⟩
  have h := doneR_is (O := O) (who := who) (I := openS In In.length) (G := openS G G.length) hz 0 hv
  unfold lay0
  rw [List.mem_filter, inT_iff]
  rw [rkK] at h
  have e : (openS In In.length v = true ∧ openS G G.length v = true) ↔ ((v : Int) ∈ In ∧ (v : Int) ∈ G) := by simp [openS]
  unfold DoneR at h
  constructor
  · intro hh
    rw [if_pos (e.2 hh)] at h
    have := h.2 (by omega)
    omega
  · intro hh
    refine e.1 (Classical.byContradiction fun hn => ?_)
    rw [if_neg hn] at h
    have := h.1 ⟨by omega, by omega⟩
    omega

/-- What is waited for while the first layer is struck out. -/
def zeroF (O : List Int) (zss : List (List Int)) (who : Int) (In G : List Int) (k u : Nat) : Int := if (u : Int) ∈ (lay0 In G).take k then 0 else startF O zss who In In.length u

theorem zeroF_succ {k u : Nat} (hk : k < (lay0 In G).length) (hu : nth (lay0 In G) k = (u : Int)) (i : Nat) : zeroF O zss who In G (k + 1) i = if i = u then 0 else zeroF O zss who In G k i := by
  unfold zeroF
  rw [take_snoc hk, hu]
  by_cases e : i = u
  · subst e; rw [if_pos (by simp), if_pos rfl]
  · have e' : ((i : Int) = u) ↔ False := ⟨fun h => e (Int.natCast_inj.1 h), False.elim⟩
    rw [if_neg e]
    simp only [List.mem_append, List.mem_singleton, e', or_false]

theorem mid0_is (hz : RowsP zss) : MidP zss O who (openS In In.length) (openS G G.length) (rkK zss O who (openS In In.length) (openS G G.length) zss.length) 0 0 (lay0 In G) [] (zeroF O zss who In G (lay0 In G).length) where
  waits := fun v hv => by
    have hP : ∀ x, ¬ PastP (rkK zss O who (openS In In.length) (openS G G.length) zss.length) 0 (lay0 In G) 0 x := fun x hx => by
      rcases hx with h | h
      · unfold DoneR at h; omega
      · simp at h
    have hI : openS In In.length v = true ↔ (v : Int) ∈ In := openS_mem In v
    have hG : openS G G.length v = true ↔ (v : Int) ∈ G := openS_mem G v
    unfold zeroF startF waitF
    rw [List.take_length]
    have hL : (v : Int) ∈ lay0 In G ↔ (v : Int) ∈ In ∧ (v : Int) ∈ G := by unfold lay0; rw [List.mem_filter, inT_iff]
    by_cases h1 : (v : Int) ∈ In
    · by_cases h2 : (v : Int) ∈ G
      · rw [if_pos (hL.2 ⟨h1, h2⟩), if_neg (fun hh => by rw [hG.2 h2] at hh; cases hh.2)]
      · have h3 : openS G G.length v = false := by
          cases hg : openS G G.length v with
          | false => rfl
          | true => exact absurd (hG.1 hg) h2
        rw [if_neg (fun hh => h2 (hL.1 hh).2), if_pos (hI.2 h1), if_pos ⟨hI.2 h1, h3⟩]
        unfold startW ownB
        by_cases ho : nth O v = who
        · rw [if_pos ho, if_pos (by simpa using ho), if_neg (fun ⟨x, _, _, hx⟩ => hP _ hx)]
        · rw [if_neg ho, if_neg (by simpa using ho)]
          congr 2
          refine List.filter_congr fun x hx => ?_
          rw [inT_open (hz.pos hv x hx)]
          simp [hP]
    · rw [if_neg (fun hh => h1 (hL.1 hh).1), if_neg (fun hh => h1 (hI.1 hh)), if_neg (fun hh => h1 (hI.1 hh.1))]
  verts := VertsP.nil _
  is := fun v hv => by
    have hq : QueP zss O who (openS In In.length) (openS G G.length) (PastP (rkK zss O who (openS In In.length) (openS G G.length) zss.length) 0 (lay0 In G) 0) v ↔ DoneR (rkK zss O who (openS In In.length) (openS G G.length) zss.length) (0 + 1) v := by
      rw [doneR_succ hz.inG 0 hv]
      exact QueP.congr fun x _ => by unfold PastP; simp
    rw [hq]
    simp

end

theorem pastP_full {n : Nat} {R : Nat → Int} {r : Nat} {L ab : List Int} (hL : LayP n R r L) {x : Nat} (hx : x < n) : PastP R r L L.length x ↔ PastP R (r + 1) ab 0 x := by
  unfold PastP
  rw [List.take_length, hL.is x hx, List.take_zero]
  unfold DoneR
  simp only [List.not_mem_nil, or_false]
  constructor
  · rintro (hh | hh) <;> omega
  · intro hh
    by_cases e : R x = r
    · exact .inr e
    · exact .inl (by omega)

/-- What an attractor hands on at a time: a vertex and its rank. -/
def encR (x : Nat × Nat) : Array Value := #[.int .i64 (x.1 : Int), .int .i64 (x.2 : Int)]
/-- What may be handed on. -/
def OkR (n : Nat) (R : Nat → Int) (pre : List (Nat × Nat)) (x : Nat × Nat) : Prop := pre.length < n ∧ x.1 < n ∧ R x.1 = (x.2 : Int) ∧ x.2 ≤ n
end

end Go.Proofs.Ytaoagikipbcjpaa
