/-
  Who wins the dual game, and the game with compressed priorities. No program text.
-/
import Derived.Test.YtmobegiojhlakaaZielonka
import Derived.Test.YtmobegiojhlakaaPress
import Derived.Test.YtmobegiojhlakaaFlipSpec
import Derived.Test.YtmobegiojhlakaaSolver
import Derived.Test.YtmobegiojhlakaaSets
import Derived.Test.YtmobegiojhlakaaKeep
namespace Go.Proofs.Ytmobegiojhlakaa
section
open Go.RowKit

/-- All vertices. -/
def allI (n : Nat) : Nat → Bool := fun v => decide (v < n)
/-- The vertices that player 0 wins. -/
noncomputable def wonZ (zss : List (List Int)) (O P : List Int) : Nat → Bool := winZ zss O (nth P) zss.length (allI zss.length)

section
variable {zss : List (List Int)} {O P : List Int}

theorem arena_rows (h : ArenaP O zss) {v : Nat} (hv : v < zss.length) : (nth O v = 0 ∨ nth O v = 1) ∧ 1 ≤ (row zss v).length ∧ (row zss v).length ≤ 16 := by
  have h1 := h.2.2.2 v (by rw [← h.2.2.1]; exact hv)
  exact ⟨h1.1, h1.2.1, h1.2.2.1⟩
theorem total_all (h : ArenaP O zss) : TotalP zss (allI zss.length) := fun v hv _ => by
  have h1 := arena_rows h hv
  have hm := nth_mem (zs := row zss v) (k := 0) (by omega)
  obtain ⟨u, hu, hun⟩ := (rowsP_of h).inG v hv _ hm
  exact ⟨_, hm, by rw [hu, Int.toNat_natCast]; simp [allI, hun]⟩
theorem won_holds (h : ArenaP O zss) (hl : P.length = O.length) (hp : ∀ x ∈ P, 0 ≤ x) :
    (∃ s, HoldsP zss O (nth P) (allI zss.length) (regZ 0 (allI zss.length) (wonZ zss O P)) 0 s) ∧ ∃ s, HoldsP zss O (nth P) (allI zss.length) (regZ 1 (allI zss.length) (wonZ zss O P)) 1 s :=
  winZ_holds (rowsP_of h).inG (fun v hv => (arena_rows h hv).1) (fun v hv => hp _ (nth_mem (by have := h.2.2.1; omega))) _ _ (fun v hv => by simpa [allI] using hv) (markedK_len _ _) (total_all h)

theorem reg_at {who : Int} {win : Nat → Bool} {v : Nat} (hv : v < zss.length) : regZ who (allI zss.length) win v = (win v == decide (who = 0)) := by
  unfold regZ allI; simp [hv]

theorem turn_valid (h : ArenaP O zss) : ArenaP (turnO O) zss := by
  refine ⟨by rw [turnO_len]; exact h.1, by rw [turnO_len]; exact h.2.1, by rw [turnO_len]; exact h.2.2.1, fun k hk => ?_⟩
  rw [turnO_len] at hk
  obtain ⟨h1, h2, h3, h4⟩ := h.2.2.2 k hk
  refine ⟨?_, h2, h3, by rw [turnO_len]; exact h4⟩
  rw [turnO_nth hk]
  omega
theorem moreP_nth {v : Nat} (hv : v < P.length) : nth (moreP P) v = nth P v + 1 := by
  unfold moreP
  rw [nth_eq (by simpa using hv), List.getElem_map, nth_eq hv]
theorem moreP_pos (hp : ∀ x ∈ P, 0 ≤ x) : ∀ x ∈ moreP P, 0 ≤ x := fun x hx => by
  obtain ⟨y, hy, rfl⟩ := List.mem_map.1 hx
  have := hp y hy; omega

/-- The dual game exchanges the winners. -/
theorem won_dual (h : ArenaP O zss) (hl : P.length = O.length) (hp : ∀ x ∈ P, 0 ≤ x) {v : Nat} (hv : v < zss.length) : wonZ zss (turnO O) (moreP P) v = !wonZ zss O P v := by
  have hz := h.2.2.1
  obtain ⟨⟨s0, h0⟩, ⟨s1, h1⟩⟩ := won_holds h hl hp
  obtain ⟨⟨t0, g0⟩, ⟨t1, g1⟩⟩ := won_holds (turn_valid h) (P := moreP P) (by rw [moreP_len, turnO_len]; exact hl) (moreP_pos hp)
  have hI : ∀ u, u < zss.length → allI zss.length u = true := fun u hu => by simp [allI, hu]
  have ho : ∀ who who' : Int, (who = 0 ∧ who' = 0) ∨ (who = 1 ∧ who' = 1) → ∀ u, u < zss.length → (nth O u = who ↔ nth (turnO O) u ≠ who') := fun who who' hw u hu => by
    rw [turnO_nth (by omega)]
    have := (arena_rows h hu).1
    omega
  have hq : ∀ who who' : Int, (who = 0 ∧ who' = 0) ∨ (who = 1 ∧ who' = 1) → ∀ u w : Nat, u < zss.length → w < zss.length → nth P u ≤ nth P w → nth (moreP P) w ≤ nth (moreP P) u → nth P w % 2 = who → nth (moreP P) u % 2 = who' → False := fun who who' hw u w hu hw' h1 h2 h3 h4 => by
    rw [moreP_nth (by omega)] at h2 h4
    rw [moreP_nth (by omega)] at h2
    omega
  have n0 := no_both (rowsP_of h).inG h0 g0 hI hI (ho 0 0 (by omega)) (hq 0 0 (by omega)) v hv
  have n1 := no_both (rowsP_of h).inG h1 g1 hI hI (ho 1 1 (by omega)) (hq 1 1 (by omega)) v hv
  rw [reg_at hv, reg_at hv] at n0 n1
  cases e1 : wonZ zss O P v <;> cases e2 : wonZ zss (turnO O) (moreP P) v <;> rw [e1, e2] at n0 n1 <;> simp at n0 n1 ⊢

/-- Compressing the priorities keeps the winners. -/
theorem won_press (h : ArenaP O zss) (hl : P.length = O.length) (hp : ∀ x ∈ P, 0 ≤ x ∧ x ≤ 40) {v : Nat} (hv : v < zss.length) : wonZ zss O (pressL P) v = wonZ zss O P v := by
  have hz := h.2.2.1
  obtain ⟨⟨s0, h0⟩, ⟨s1, h1⟩⟩ := won_holds h hl (fun x hx => (hp x hx).1)
  obtain ⟨⟨t0, g0⟩, ⟨t1, g1⟩⟩ := won_holds h (P := pressL P) (by rw [pressL_len]; exact hl) (fun x hx => (press_bound hp x hx).1)
  have hI : ∀ u, u < zss.length → allI zss.length u = true := fun u hu => by simp [allI, hu]
  have ho : ∀ who who' : Int, (who = 0 ∧ who' = 1) ∨ (who = 1 ∧ who' = 0) → ∀ u, u < zss.length → (nth O u = who ↔ nth O u ≠ who') := fun who who' hw u hu => by
    have := (arena_rows h hu).1
    omega
  have hq : ∀ who who' : Int, (who = 0 ∧ who' = 1) ∨ (who = 1 ∧ who' = 0) → ∀ u w : Nat, u < zss.length → w < zss.length → nth P u ≤ nth P w → nth (pressL P) w ≤ nth (pressL P) u → nth P w % 2 = who → nth (pressL P) u % 2 = who' → False := fun who who' hw u w hu hw' h1 h2 h3 h4 => by
    have a1 := press_keeps hp (v := u) (by omega)
    have a2 := press_keeps hp (v := w) (by omega)
    have a3 := press_order (P := P) (u := u) (v := w) (by omega) (by omega) h1
    have a4 : nth (pressL P) u = nth (pressL P) w := by omega
    rw [a4] at h4
    omega
  have n0 := no_both (rowsP_of h).inG h0 g1 hI hI (ho 0 1 (by omega)) (hq 0 1 (by omega)) v hv
  have n1 := no_both (rowsP_of h).inG h1 g0 hI hI (ho 1 0 (by omega)) (hq 1 0 (by omega)) v hv
  rw [reg_at hv, reg_at hv] at n0 n1
  cases e1 : wonZ zss O P v <;> cases e2 : wonZ zss O (pressL P) v <;> rw [e1, e2] at n0 n1 <;> simp at n0 n1 ⊢
end
end

section
open Go.RowKit

noncomputable def evenL (zss : List (List Int)) (O P : List Int) : List Int := (upL zss.length).filter fun x => wonZ zss O P x.toNat
noncomputable def oddL (zss : List (List Int)) (O P : List Int) : List Int := (upL zss.length).filter fun x => !wonZ zss O P x.toNat

theorem none_nth {n v : Nat} (h : v < n) : nth (List.replicate n (-1 : Int)) v = -1 := by simp [nth, h]
theorem ints_none {w : World} {k n : Nat} (h : w.rowIs k 2 n (fun _ => .int .i64 (-1))) (hn : n ≤ 256) : IntsAt w (some ⟨k, 0, none⟩) (List.replicate n (-1)) := by
  refine ⟨by simp; omega, fun j hj => ?_, fun _ => ⟨k, 0, rfl, fun j hj => ?_⟩⟩
  · have hj' : j < n := by simpa using hj
    rw [none_nth hj']; unfold Fits; omega
  · have hj' : j < n := by simpa using hj
    rw [Nat.zero_add, none_nth hj']
    exact h.cell hj'
theorem zssE_none {zss : List (List Int)} : zssE zss (List.replicate zss.length (-1)) = zss := by
  refine List.ext_getElem (by rw [zssE_len]) fun v h1 h2 => ?_
  have e1 : (zssE zss (List.replicate zss.length (-1)))[v] = row (zssE zss (List.replicate zss.length (-1))) v := by simp [row, h1]
  have e2 : zss[v] = row zss v := by simp [row, h2]
  rw [e1, e2, zssE_row h2]
  refine List.filter_eq_self.2 fun x _ => ?_
  unfold pickB
  rw [none_nth h2]; rfl
theorem deg_all {zss : List (List Int)} (hz : RowsP zss) {v : Nat} (hv : v < zss.length) : degK (allI zss.length) (List.replicate zss.length (-1)) v (row zss v) = ((row zss v).length : Int) := by
  unfold degK
  rw [List.filter_eq_self.2 fun x hx => ?_]
  obtain ⟨u, hu, hun⟩ := hz.inG v hv x hx
  unfold pickB allI
  rw [none_nth hv, hu]
  simp [hun]
theorem open_all (n : Nat) : openS (upL n) (upL n).length = allI n := funext fun v => by
  unfold openS allI
  rw [List.take_length, decide_eq_decide, mem_nth]
  constructor
  · rintro ⟨k, hk, e⟩; rw [upL_len] at hk; rw [upL_nth hk] at e; omega
  · intro h; exact ⟨v, by rw [upL_len]; exact h, upL_nth h⟩
theorem up_mem {n : Nat} : ∀ x ∈ upL n, ∃ u : Nat, x = (u : Int) ∧ u < n := fun x hx => by
  obtain ⟨k, hk, e⟩ := mem_nth.1 hx
  rw [upL_len] at hk
  rw [upL_nth hk] at e
  exact ⟨k, e.symm, hk⟩
theorem setFrom_up {n : Int} : ∀ (zs : List Int) (l : Int), zs.Pairwise (· < ·) → (∀ x ∈ zs, l < x ∧ x < n) → setFrom n l zs = true
  | [], _, _, _ => rfl
  | z :: r, l, hp, hb => by
    obtain ⟨h1, h2⟩ := List.pairwise_cons.1 hp
    have hz := hb z (by simp)
    rw [setFrom, decide_eq_true hz]
    exact setFrom_up r z h2 fun x hx => ⟨h1 x hx, (hb x (by simp [hx])).2⟩
theorem up_set (n : Nat) : setB (n : Int) (upL n) = true := by
  refine setFrom_up _ (-1) ?_ fun x hx => ?_
  · rw [← rises_pairwise]
    intro j k hjk hk
    rw [upL_len] at hk
    rw [upL_nth (by omega), upL_nth hk]; omega
  · obtain ⟨u, hu, hun⟩ := up_mem x hx
    omega
/-- Rows of the predecessors, as the solver reads them. -/
theorem prev_rows {w : World} {B g n : Nat} {V : Nat → Value} {R : Nat → List Int} (h : RowSet w B g n V R) (hn : n ≤ 256) : RowsAt w (some ⟨g, 0, none⟩) (fun k => addrOf (V k)) (fun k => capOf (V k)) (rowsOf n R) := by
  have hl := rowsOf_len n R
  refine ⟨by omega, fun _ => ⟨g, 0, rfl, fun k hk => ?_⟩, fun k hk => ?_⟩
  · rw [hl] at hk
    obtain ⟨a, cap, hv, _, _⟩ := (h.rows k hk).shape
    rw [rowsOf_row hk, Nat.zero_add, h.own.cellAt k (by omega)]
    simp [hk, hv, addrOf, capOf]
  · rw [hl] at hk
    obtain ⟨a, cap, hv, hi, _⟩ := (h.rows k hk).shape
    rw [rowsOf_row hk, hv]
    exact hi

theorem rowset_base {w : World} {B B' q n : Nat} {V : Nat → Value} {R : Nat → List Int} (h : RowSet w B q n V R) (hB : B' ≤ B) : RowSet w B' q n V R :=
  ⟨ownsRow_base h.own hB, fun u hu => (h.rows u hu).base hB, h.apart⟩

set_option maxHeartbeats 16000000 in
set_option maxRecDepth 100000 in
theorem WonIn_is {w : World} {v : Value} {O : List Int} {zss : List (List Int)} {P : List Int} {aI : Option Addr} (cI : Nat) (h : GameAt w v O zss P) (hp : parityB O zss P = true) (hI : IntsAt w aI (upL zss.length)) :
    Calls Try.prog 22 #[v, .slice aI zss.length cI] w fun e w' => ∃ x y, e = .returned (.tuple #[x, y]) ∧ IntsV w' x (evenL zss O P) ∧ IntsV w' y (oddL zss O P) ∧ Below w.heap.size w w' := by
  obtain ⟨i0, hi, hz0, hz1, hz2⟩ := info_parts info_int
  have hG := h
  obtain ⟨ao, an, ap, co, cn, cp, A, C, rfl, h1, h2, h3⟩ := h
  obtain ⟨hA, hPO, hPB⟩ := parityB_iff.1 hp
  obtain ⟨n, hn⟩ : ∃ n, n = zss.length := ⟨_, rfl⟩
  have hOl : O.length = n := by rw [hn]; exact hA.2.2.1.symm
  have hPl : P.length = n := by omega
  have hn256 : n ≤ 256 := by have := hA.2.1; omega
  have hn1 : 1 ≤ n := by have := hA.1; omega
  have hz := rowsP_of hA
  have HC : Hid (∀ W, Below w.heap.size w W → Calls Try.prog 21 #[.agg #[.slice ao n co, .slice an n cn, .slice ap n cp]] W fun e w' => e = .returned (.bool true) ∧ Below W.heap.size W w') := fun W hb => by
    have h := specParityOk_is hp (hG.below hb)
    rw [hOl, hPl, ← hn] at h; exact h
  have HO7 : Hid (∀ W, Below w.heap.size w W → Calls Try.prog 65 #[.agg #[.slice ao n co, .slice an n cn, .slice ap n cp]] W (GivesSolver W ao an ap co cn cp n zss)) := fun W hb => by
    have h := l7Of_is co cn cp (h1.below hb) (h2.below hb) (h3.below hb) hA (by omega)
    rw [hOl, hPl, ← hn] at h; exact h
  have HSet : Hid (∀ W, Below w.heap.size w W → Calls Try.prog 64 #[.slice aI n cI, .int .i64 n] W fun e w' => e = .returned (.bool true) ∧ ∃ q, w' = W.drewN q) := fun W hb => by
    have h := specSetOk_is (n := (n : Int)) (r := true) (by rw [setOk_yes (by omega), ← hn]; exact up_set n) cI (hI.below hb)
    rw [upL_len, ← hn] at h; exact h
  have HPart : Hid (∀ W, Below w.heap.size w W → Calls Try.prog 66 #[.int .i64 n, .slice aI n cI] W (GivesMarks W n (allI n))) := fun W hb => by
    have h := l7Part_is cI n (hI.below hb) (by omega) (by rw [← hn]; exact up_mem)
    rw [open_all, upL_len, ← hn] at h; exact h
  have HDeg : Hid (∀ W q k bI V, Below w.heap.size w W → RowSet W w.heap.size q n V (fun u => predsK zss u n) → W.rowIs k 2 n (fun _ => .int .i64 (-1)) → W.rowIs bI 4 n (marksV (allI n)) → ∀ u, u < n →
      Calls Try.prog 67 #[.agg #[.slice ao n co, .slice ap n cp, .slice an n cn, .slice (some ⟨q, 0, none⟩) n n, .slice (some ⟨k, 0, none⟩) n n], .slice (some ⟨bI, 0, none⟩) n n, .int .i64 u] W fun e w' => ∃ d : Int, e = .returned (.int .i64 d) ∧ (d == 0) = false ∧ Below W.heap.size W w') := fun W q k bI V hb hq hk hM u hu => by
    rw [hn] at hk hM hu hn256
    have h := l7Degree_is (ao := ao) (ap := ap) (aq := some ⟨q, 0, none⟩) (v := u) n n n co cp cn n n n (h2.below hb) (ints_none hk hn256) hz (by simp) hM hu (by have := (arena_rows hA hu).2; omega)
    rw [deg_all hz hu, List.length_replicate, ← hn] at h
    refine h.mono ?_
    rintro e w' ⟨he, hw⟩
    exact ⟨_, he, beq_eq_false_iff_ne.2 (by have := (arena_rows hA hu).2; omega), hw⟩
  have HWin : Hid (∀ W q k bI V, Below w.heap.size w W → RowSet W w.heap.size q n V (fun u => predsK zss u n) → W.rowIs k 2 n (fun _ => .int .i64 (-1)) → W.rowIs bI 4 n (marksV (allI n)) →
      Calls Try.prog 68 #[.agg #[.slice ao n co, .slice ap n cp, .slice an n cn, .slice (some ⟨q, 0, none⟩) n n, .slice (some ⟨k, 0, none⟩) n n], .slice (some ⟨bI, 0, none⟩) n n] W (GivesMarks W n (wonZ zss O P))) := fun W q k bI V hb hq hk hM => by
    have hq' := prev_rows hq hn256
    rw [hn] at hk hM hq' hn256
    have h := l7Win_is (Pk := List.replicate zss.length (-1)) co cp cn n n hz (by omega) (by omega) (by simp) hn256 (fun v hv => (arena_rows hA hv).2.2) zss.length (h1.below hb) (h3.below hb) (h2.below hb) hq' (ints_none hk hn256) hM (markedK_len _ _)
    rw [zssE_none, List.length_replicate, hOl, hPl, ← hn] at h
    unfold wonZ
    rw [← hn]
    exact h
  have HI : Hid (∀ W, Below w.heap.size w W → ∃ b off, aI = some ⟨b, off, none⟩ ∧ ∀ j, j < n → W.cell? ⟨b, off + j, none⟩ = some (.int .i64 (j : Int))) := fun W hb => by
    obtain ⟨b, off, ha, hc⟩ := (hI.below hb).cell (by rw [upL_len]; omega)
    refine ⟨b, off, ha, fun j hj => ?_⟩
    have := hc j (by rw [upL_len]; omega)
    rwa [upL_nth (by omega)] at this
  have HEv : Hid (evenL zss O P = (upL n).filter fun x => wonZ zss O P x.toNat) := by unfold evenL; rw [← hn]; rfl
  have HOd : Hid (oddL zss O P = (upL n).filter fun x => !wonZ zss O P x.toNat) := by unfold oddL; rw [← hn]; rfl
  rw [hOl, hPl, ← hn]
  obtain ⟨E, hE⟩ : ∃ E, E = evenL zss O P := ⟨_, rfl⟩
  obtain ⟨D, hD⟩ : ∃ D, D = oddL zss O P := ⟨_, rfl⟩
  rw [← hE, ← hD]
  obtain ⟨F, hF⟩ : ∃ F, F = wonZ zss O P := ⟨_, rfl⟩
  rw [← hE, ← hF] at HEv
  rw [← hD, ← hF] at HOd
  rw [← hF] at HWin
  clear hE hD hF hG h1 h2 h3 hI hA hPO hPB hp hz hOl hPl hn
  obtain ⟨w1, hw1⟩ : ∃ y, y = w.alloc (.cells #[.slice ao n co, .slice an n cn, .slice ap n cp] 32) := ⟨_, rfl⟩
  have HW1 := Lib.hid hw1
  have B1 : Hid (Below w.heap.size w w1) := by rw [hw1]; exact below1 _ _
  have T1 : Hid (Box3 w1 w.heap.size 32 (.slice ao n co) (.slice an n cn) (.slice ap n cp)) := by rw [hw1]; exact Box3.new _ _ _ _ _
  have hs1 : w1.heap.size = w.heap.size + 1 := by rw [hw1]; simp
  have HS1 := Lib.hid hs1
  obtain ⟨w2, hw2⟩ : ∃ y, y = (w1.alloc (.cells #[] 2)).alloc (.cells #[] 2) := ⟨_, rfl⟩
  have HW2 := Lib.hid hw2
  have K2 : Hid (Below w1.heap.size w1 w2) := by rw [hw2]; exact below2 _ _ _
  have OE2 : Hid (w2.ownsRow w1.heap.size 2 1 (.slice (some ⟨w1.heap.size, 0, none⟩) 0 0) 0 []) := by
    rw [hw2]; exact (World.ownsRow_made w1 #[] 0 (Nat.le_refl _) (by unfold maxLen; omega) rfl).alloc _
  have OD2 : Hid (w2.ownsRow w1.heap.size 2 1 (.slice (some ⟨w1.heap.size + 1, 0, none⟩) 0 0) 0 []) := by
    have h := World.ownsRow_made (w1.alloc (.cells #[] 2)) (base := w1.heap.size) (e := 2) (size := 1) #[] 0 (by simp) (by unfold maxLen; omega) rfl
    rw [World.size_alloc] at h
    rw [hw2]; exact h
  have B2 := Lib.hid (B1.out.trans (K2.out.mono B1.out.size))
  have T2 := Lib.hid (T1.out.below K2.out)
  clear hw1 hw2 hs1
  go_enter Try.func22, Try.ntmps22
  go_wp2_with fail
  rw [← HW1.out, ← HS1.out, ← HW2.out]
  refine (HC.out _ B2.out).mono ?_
  rintro e w3 ⟨rfl, hb⟩
  have K3 := Lib.hid (K2.out.trans (hb.mono K2.out.size))
  have B3 := Lib.hid (B1.out.trans (K3.out.mono B1.out.size))
  have T3 := Lib.hid (T2.out.below hb)
  have OE3 := Lib.hid (ownsRow_only OE2.out (S := fun _ => False) (Only.of_below hb) (fun _ _ h => h))
  have OD3 := Lib.hid (ownsRow_only OD2.out (S := fun _ => False) (Only.of_below hb) (fun _ _ h => h))
  have t2 := T3.out.c2
  clear hb HC K2 B2 T2 OE2 OD2
  go_wp2_with fail
  refine (HSet.out _ B3.out).mono ?_
  rintro e w4 ⟨rfl, q4, hq4⟩
  have hb : Below w3.heap.size w3 w4 := by rw [hq4]; exact below_drewN (Below.refl _ _) q4
  have K4 := Lib.hid (K3.out.trans (hb.mono K3.out.size))
  have B4 := Lib.hid (B1.out.trans (K4.out.mono B1.out.size))
  have T4 := Lib.hid (T3.out.below hb)
  have OE4 := Lib.hid (ownsRow_only OE3.out (S := fun _ => False) (Only.of_below hb) (fun _ _ h => h))
  have OD4 := Lib.hid (ownsRow_only OD3.out (S := fun _ => False) (Only.of_below hb) (fun _ _ h => h))
  clear hb hq4 HSet K3 B3 T3 OE3 OD3 t2
  have t0 := T4.out.c0
  have t1 := T4.out.c1
  have t2 := T4.out.c2
  go_wp2_with fail
  refine (HO7.out _ B4.out).mono ?_
  rintro e w5 ⟨q, k, V, rfl, hV, hK, hb⟩
  obtain ⟨w6, hw6⟩ : ∃ y, y = w5.alloc (.cells #[.slice ao n co, .slice ap n cp, .slice an n cn, .slice (some ⟨q, 0, none⟩) n n, .slice (some ⟨k, 0, none⟩) n n] 77) := ⟨_, rfl⟩
  have HW6 := Lib.hid hw6
  have hb56 : Below w5.heap.size w5 w6 := by rw [hw6]; exact below1 _ _
  have hb46 : Below w4.heap.size w4 w6 := hb.trans (hb56.mono hb.size)
  have X6 : Hid (Box5 w6 w5.heap.size 77 (.slice ao n co) (.slice ap n cp) (.slice an n cn) (.slice (some ⟨q, 0, none⟩) n n) (.slice (some ⟨k, 0, none⟩) n n)) := by rw [hw6]; exact Box5.new _ _ _ _ _ _ _
  have hwb : w.heap.size ≤ w4.heap.size := B4.out.size
  have V6 : Hid (RowSet w6 w.heap.size q n V (fun u => predsK zss u n)) := rowset_base (hV.below hb56) hwb
  have P6 := Lib.hid (rowIs_below hK hb56)
  have K6 := Lib.hid (K4.out.trans (hb46.mono K4.out.size))
  have B6 := Lib.hid (B1.out.trans (K6.out.mono B1.out.size))
  have T6 := Lib.hid (T4.out.below hb46)
  have OE6 := Lib.hid (ownsRow_only OE4.out (S := fun _ => False) (Only.of_below hb46) (fun _ _ h => h))
  have OD6 := Lib.hid (ownsRow_only OD4.out (S := fun _ => False) (Only.of_below hb46) (fun _ _ h => h))
  clear t0 t1 t2
  have t2 := T6.out.c2
  rw [hw6] at t2
  clear hb hw6 hb56 hb46 hV hK HO7 K4 B4 T4 OE4 OD4
  go_wp2_with fail
  rw [← HW6.out]
  refine (HPart.out _ B6.out).mono ?_
  rintro e w7 ⟨bI, rfl, hbI, hM, hb⟩
  have X7 := Lib.hid (X6.out.below hb)
  have V7 := Lib.hid (V6.out.below hb)
  have P7 := Lib.hid (rowIs_below P6.out hb)
  have M7 := Lib.hid hM
  have K7 := Lib.hid (K6.out.trans (hb.mono K6.out.size))
  have B7 := Lib.hid (B1.out.trans (K7.out.mono B1.out.size))
  have OE7 := Lib.hid (ownsRow_only OE6.out (S := fun _ => False) (Only.of_below hb) (fun _ _ h => h))
  have OD7 := Lib.hid (ownsRow_only OD6.out (S := fun _ => False) (Only.of_below hb) (fun _ _ h => h))
  clear t2 hb hM HPart X6 V6 P6 K6 B6 T6 OE6 OD6 HW6 hbI
  go_wp2
  go_loopw [10] (fun iv wr => ∃ i : Nat, i ≤ n ∧ iv = .int .i64 i ∧ Hid (Below w7.heap.size w7 wr)) (fun iv _ => n - (intOf iv).toNat)
  case atStart => exact ⟨0, Nat.zero_le _, rfl, Below.refl _ _⟩
  case round =>
    obtain ⟨i, hin, rfl, HB⟩ := hrel
    have Bw := Lib.hid (B7.out.trans (HB.out.mono B7.out.size))
    by_cases hlt : i < n
    · have hi1 : (i : Int) < n := by omega
      have hi0 : (0 : Int) ≤ (i : Int) := by omega
      obtain ⟨ib, io, hia, hic⟩ := HI.out _ Bw.out
      have i1 := hic i hlt
      have Xw := Lib.hid (X7.out.below HB.out)
      have x0 := Xw.out.c0
      have x1 := Xw.out.c1
      have x2 := Xw.out.c2
      have x3 := Xw.out.c3
      have x4 := Xw.out.c4
      have HD : Hid (Below wr.heap.size wr wr.drew) := (Below.refl _ _).drew
      have HBd := Lib.hid (HB.out.trans (HD.out.mono HB.out.size))
      have HDg := Lib.hid (HDeg.out wr.drew q k bI V (B7.out.trans (HBd.out.mono B7.out.size)) (V7.out.below HBd.out) (rowIs_below P7.out HBd.out) (rowIs_below M7.out HBd.out) i hlt)
      subst hia
      clear hic
      go_wp2
      go_region_held3 (fun w' => w'.cell? ⟨w5.heap.size, 0, none⟩ = some (.slice ao n co) ∧ w'.cell? ⟨w5.heap.size, 1, none⟩ = some (.slice ap n cp) ∧ w'.cell? ⟨w5.heap.size, 2, none⟩ = some (.slice an n cn) ∧ w'.cell? ⟨w5.heap.size, 3, none⟩ = some (.slice (some ⟨q, 0, none⟩) n n) ∧ w'.cell? ⟨w5.heap.size, 4, none⟩ = some (.slice (some ⟨k, 0, none⟩) n n) ∧ w'.cell? ⟨ib, io + i, none⟩ = some (.int .i64 i))
        (first
          | go_keep
          | exact ⟨y0, y1, y2, y3, y4, y5⟩)
        (first
          | (go_at_call 67; refine HDg.out.mono ?_; rintro e w8 ⟨d, rfl, hd, hb⟩; have HB8 := Lib.hid (HBd.out.trans (hb.mono HBd.out.size)); have hb8 := HD.out.trans (hb.mono HD.out.size); have y0 := (Xw.out.below hb8).c0; have y1 := (Xw.out.below hb8).c1; have y2 := (Xw.out.below hb8).c2; have y3 := (Xw.out.below hb8).c3; have y4 := (Xw.out.below hb8).c4; have y5 := (hb8.cell (World.block_lt_of_cell? _ _ i1)).trans i1; clear hb hb8))
      all_goals (
        clear x0 x1 x2 x3 x4 y0 y1 y2 y3 y4 y5 i1
        go_wp2
        go_roundw
        case rel => exact ⟨i + 1, by omega, by go_num, HB8⟩
        case measure => simp [intOf]; omega)
    · have hi1 : ¬ (i : Int) < n := by omega
      obtain ⟨wq, hwq⟩ : ∃ x, x = wr := ⟨_, rfl⟩
      subst hwq
      have Xw := Lib.hid (X7.out.below HB.out)
      have x0 := Xw.out.c0
      have x1 := Xw.out.c1
      have x2 := Xw.out.c2
      have x3 := Xw.out.c3
      have x4 := Xw.out.c4
      have HWn := Lib.hid (HWin.out wq q k bI V Bw.out (V7.out.below HB.out) (rowIs_below P7.out HB.out) (rowIs_below M7.out HB.out))
      go_wp2_with fail
      refine HWn.out.mono ?_
      rintro e w9 ⟨bW, rfl, hbW, hM, hb⟩
      have M9 := Lib.hid hM
      have K9 := Lib.hid (K7.out.trans ((HB.out.trans (hb.mono HB.out.size)).mono K7.out.size))
      have hb79 := HB.out.trans (hb.mono HB.out.size)
      have OE9 := Lib.hid (ownsRow_only OE7.out (S := fun _ => False) (Only.of_below hb79) (fun _ _ h => h))
      have OD9 := Lib.hid (ownsRow_only OD7.out (S := fun _ => False) (Only.of_below hb79) (fun _ _ h => h))
      have hK79 : w7.heap.size ≤ wq.heap.size := HB.out.size
      have hK17 : w1.heap.size ≤ w7.heap.size := K7.out.size
      have hod : w1.heap.size + 1 < w7.heap.size := (OD7.out.lt _ rfl).2
      clear hb hM hb79 x0 x1 x2 x3 x4 Xw HWn HWin HDeg X7 V7 P7 M7 OE7 OD7 HB
      go_wp2
      go_loopw [6, 7, 12] (fun u v iv wr => ∃ (j : Nat) (uu vv : Value), uu = u ∧ vv = v ∧ j ≤ n ∧ iv = .int .i64 j ∧ Hid (wr.ownsRow w1.heap.size 2 1 u (partK (fun x => F x.toNat) (upL n) j).length ((partK (fun x => F x.toNat) (upL n) j).map (Value.int .i64))) ∧ Hid (wr.ownsRow w1.heap.size 2 1 v (partK (fun x => !F x.toNat) (upL n) j).length ((partK (fun x => !F x.toNat) (upL n) j).map (Value.int .i64))) ∧ Hid (∀ g, u.ownBlock = some g → v.ownBlock ≠ some g) ∧ Hid ((∀ g, u.ownBlock = some g → g ≠ bW) ∧ ∀ g, v.ownBlock = some g → g ≠ bW) ∧ Hid (wr.rowIs bW 4 n (marksV F)) ∧ Hid (Below w1.heap.size w1 wr)) (fun _ _ iv _ => n - (intOf iv).toNat)
      case atStart => exact ⟨0, _, _, rfl, rfl, Nat.zero_le _, rfl, OE9.out, OD9.out, fun g hg => by simp [Value.ownBlock] at hg ⊢; omega, ⟨fun g hg => by simp [Value.ownBlock] at hg; omega, fun g hg => by simp [Value.ownBlock] at hg; omega⟩, M9, K9⟩
      case round =>
        clear OE9 OD9 M9 K9
        obtain ⟨j, uu, vv, hu0, hv0, hj, rfl, HU, HV, HDj, HNe, HM, HB⟩ := hrel
        subst hu0
        subst hv0
        have hsz := HB.out.size
        have Bw := Lib.hid (B1.out.trans (HB.out.mono B1.out.size))
        have hpe := partK_len (fun x => F x.toNat) (upL n) j
        have hpo := partK_len (fun x => !F x.toNat) (upL n) j
        by_cases hlt : j < n
        · have hj1 : (j : Int) < n := by omega
          have hj0 : (0 : Int) ≤ (j : Int) := by omega
          obtain ⟨ib, io, hia, hic⟩ := HI.out _ Bw.out
          have i1 := hic j hlt
          have m1 := HM.out.cell hlt
          unfold marksV at m1
          have hnj : nth (upL n) j = (j : Int) := upL_nth hlt
          subst hia
          clear hic
          cases hF : F j with
          | true =>
            rw [hF] at m1
            have HS1 : Hid (partK (fun x => F x.toNat) (upL n) (j + 1) = partK (fun x => F x.toNat) (upL n) j ++ [(j : Int)]) := by simp [partK, hnj, hF, Hid]
            have hS2 : partK (fun x => !F x.toNat) (upL n) (j + 1) = partK (fun x => !F x.toNat) (upL n) j := by simp [partK, hnj, hF]
            have HV2 := HV
            rw [← hS2] at HV2
            clear hF hS2 hnj
            go_wp2_with (at_builtin; refine wpList_append_own_at _ rfl _ _ 27 rfl w1.heap.size 2 i0 (.int .i64 0) 1 8 Try.underlying27 hi hz0 hz1 hz2 rfl (by decide) _ _ _ rfl (HU.out.alloc _) ⟨wr.heap.size, 0, none⟩ 1 1 [.int .i64 (j : Int)] rfl rfl ?c1 ?c2 ?c3 ?c4 ?c5 ?_)
            try (case c1 => exact cell_one_new _ _ _)
            try (case c2 => first | rfl | (intro u hu; simp at hu; subst hu; rfl))
            case c3 => unfold maxLen; omega
            case c4 => omega
            case c5 => simp; omega
            intro v' w1' hown' hgrow _ hlie
            have HBn := Lib.hid ((HB.out.alloc HB.out.size _).grown hgrow (by simp; omega) (fun g hg => (HU.out.lt g hg).1))
            have e1 : (partK (fun x => F x.toNat) (upL n) (j + 1)).length = (partK (fun x => F x.toNat) (upL n) j).length + 1 := by rw [HS1.out]; simp
            have e2 : (partK (fun x => F x.toNat) (upL n) (j + 1)).map (Value.int .i64) = (partK (fun x => F x.toNat) (upL n) j).map (Value.int .i64) ++ [.int .i64 (j : Int)] := by rw [HS1.out]; simp
            have HOn := Lib.hid hown'
            rw [← e1, ← e2] at HOn
            have HVn := Lib.hid (ownsRow_only (HV2.out.alloc _) (Only.of_grown hgrow) (fun g hg e => HDj.out g e hg))
            have hlt2 := HM.out.lt
            have HMn := Lib.hid (rowIs_only (rowIs_below HM.out (below1 wr (.cells #[.int .i64 (j : Int)] 2))) (Only.of_grown hgrow) (fun e => HNe.out.1 _ e rfl))
            have HDn : Hid (∀ g, v'.ownBlock = some g → vv.ownBlock ≠ some g) := fun g hg hv => by
              rcases hlie with h | h
              · rw [h] at hg; exact HDj.out g hg hv
              · rw [h] at hg; have := (HV2.out.lt g hv).2; simp at hg; omega
            have HNn : Hid ((∀ g, v'.ownBlock = some g → g ≠ bW) ∧ ∀ g, vv.ownBlock = some g → g ≠ bW) := ⟨fun g hg => by
              rcases hlie with h | h
              · rw [h] at hg; exact HNe.out.1 g hg
              · rw [h] at hg; simp at hg; omega, HNe.out.2⟩
            clear hown' hgrow e1 e2 hlie hlt2
            go_wp2
            go_roundw
            case rel => exact ⟨j + 1, _, _, rfl, rfl, by omega, by go_num, HOn, HVn, HDn, HNn, HMn, HBn⟩
            case measure => simp [intOf]; omega
          | false =>
            rw [hF] at m1
            have HS1 : Hid (partK (fun x => !F x.toNat) (upL n) (j + 1) = partK (fun x => !F x.toNat) (upL n) j ++ [(j : Int)]) := by simp [partK, hnj, hF, Hid]
            have hS2 : partK (fun x => F x.toNat) (upL n) (j + 1) = partK (fun x => F x.toNat) (upL n) j := by simp [partK, hnj, hF]
            have HU2 := HU
            rw [← hS2] at HU2
            clear hF hS2 hnj
            go_wp2_with (at_builtin; refine wpList_append_own_at _ rfl _ _ 27 rfl w1.heap.size 2 i0 (.int .i64 0) 1 8 Try.underlying27 hi hz0 hz1 hz2 rfl (by decide) _ _ _ rfl (HV.out.alloc _) ⟨wr.heap.size, 0, none⟩ 1 1 [.int .i64 (j : Int)] rfl rfl ?c1 ?c2 ?c3 ?c4 ?c5 ?_)
            try (case c1 => exact cell_one_new _ _ _)
            try (case c2 => first | rfl | (intro u hu; simp at hu; subst hu; rfl))
            case c3 => unfold maxLen; omega
            case c4 => omega
            case c5 => simp; omega
            intro v' w1' hown' hgrow _ hlie
            have HBn := Lib.hid ((HB.out.alloc HB.out.size _).grown hgrow (by simp; omega) (fun g hg => (HV.out.lt g hg).1))
            have e1 : (partK (fun x => !F x.toNat) (upL n) (j + 1)).length = (partK (fun x => !F x.toNat) (upL n) j).length + 1 := by rw [HS1.out]; simp
            have e2 : (partK (fun x => !F x.toNat) (upL n) (j + 1)).map (Value.int .i64) = (partK (fun x => !F x.toNat) (upL n) j).map (Value.int .i64) ++ [.int .i64 (j : Int)] := by rw [HS1.out]; simp
            have HOn := Lib.hid hown'
            rw [← e1, ← e2] at HOn
            have HUn := Lib.hid (ownsRow_only (HU2.out.alloc _) (Only.of_grown hgrow) (fun g hg e => HDj.out g hg e))
            have hlt2 := HM.out.lt
            have HMn := Lib.hid (rowIs_only (rowIs_below HM.out (below1 wr (.cells #[.int .i64 (j : Int)] 2))) (Only.of_grown hgrow) (fun e => HNe.out.2 _ e rfl))
            have HDn : Hid (∀ g, uu.ownBlock = some g → v'.ownBlock ≠ some g) := fun g hg hv => by
              rcases hlie with h | h
              · rw [h] at hv; exact HDj.out g hg hv
              · rw [h] at hv; have := (HU2.out.lt g hg).2; simp at hv; omega
            have HNn : Hid ((∀ g, uu.ownBlock = some g → g ≠ bW) ∧ ∀ g, v'.ownBlock = some g → g ≠ bW) := ⟨HNe.out.1, fun g hg => by
              rcases hlie with h | h
              · rw [h] at hg; exact HNe.out.2 g hg
              · rw [h] at hg; simp at hg; omega⟩
            clear hown' hgrow e1 e2 hlie hlt2
            go_wp2
            go_roundw
            case rel => exact ⟨j + 1, _, _, rfl, rfl, by omega, by go_num, HUn, HOn, HDn, HNn, HMn, HBn⟩
            case measure => simp [intOf]; omega
        · have hj1 : ¬ (j : Int) < n := by omega
          have hjj : j = (upL n).length := by rw [upL_len]; omega
          rw [hjj] at HU HV
          rw [partK_all] at HU HV
          have hu := HU.out
          have hv := HV.out
          rw [← HEv.out] at hu
          rw [← HOd.out] at hv
          have hfe : ∀ k, k < E.length → Fits (nth E k) := fun k hk => by
            have hm := nth_mem hk
            generalize nth E k = y at hm
            rw [HEv.out] at hm
            obtain ⟨u, hu, hun⟩ := up_mem y (List.mem_filter.1 hm).1
            rw [hu]; unfold Fits; omega
          have hfo : ∀ k, k < D.length → Fits (nth D k) := fun k hk => by
            have hm := nth_mem hk
            generalize nth D k = y at hm
            rw [HOd.out] at hm
            obtain ⟨u, hu, hun⟩ := up_mem y (List.mem_filter.1 hm).1
            rw [hu]; unfold Fits; omega
          have hle : E.length ≤ n := by rw [HEv.out]; have := List.length_filter_le (fun x => F x.toNat) (upL n); rw [upL_len] at this; omega
          have hld : D.length ≤ n := by rw [HOd.out]; have := List.length_filter_le (fun x => !F x.toNat) (upL n); rw [upL_len] at this; omega
          have hfin := Lib.hid (And.intro (OwnInts.mk' hu (by omega) hfe).v (And.intro (OwnInts.mk' hv (by omega) hfo).v Bw.out))
          clear hjj HU HV hu hv hfe hfo hle hld hpe hpo
          go_wp2
          go_ret2
          exact ⟨_, _, rfl, hfin.out⟩
end

end Go.Proofs.Ytmobegiojhlakaa
