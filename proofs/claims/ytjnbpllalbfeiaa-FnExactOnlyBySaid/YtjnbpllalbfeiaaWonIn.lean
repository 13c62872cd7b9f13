/-
  Who wins the dual game, and the game with compressed priorities. No program text.
-/
import Derived.Test.YtjnbpllalbfeiaaZielonka
import Derived.Test.YtjnbpllalbfeiaaParity1
import Derived.Test.YtjnbpllalbfeiaaSolver
import Derived.Test.YtjnbpllalbfeiaaDraw1
import Derived.Test.YtjnbpllalbfeiaaWalks1
namespace Go.Proofs.Ytjnbpllalbfeiaa
section
open Go.RowKit

/-- All vertices. -/
def allI (n : Nat) : Nat → Bool := fun v => decide (v < n)
/-- The vertices that player 0 wins. -/
noncomputable def wonZ (zss : List (List Int)) (O P : List Int) : Nat → Bool := winZ zss O (nth P) zss.length (allI zss.length)

section
variable {zss : List (List Int)} {O P : List Int}

theorem arena_rows (h : ArenaP O zss) {v : Nat} (hv : v < zss.length) : (nth O v = 0 ∨ nth O v = 1) ∧ 1 ≤ (row zss v).length ∧ (row zss v).length ≤ 16 := by
  have h1 := h.2.2.2 v (by rw [← h.2.2.1]; exact hv)
  exact ⟨h1.1, h1.2.1, h1.2.2.1⟩
theorem total_all (h : ArenaP O zss) : TotalP zss (allI zss.length) := fun v hv _ => by
  have h1 := arena_rows h hv
  have hm := nth_mem (zs := row zss v) (k := 0) (by omega)
  obtain ⟨u, hu, hun⟩ := (rowsP_of h).inG v hv _ hm
  exact ⟨_, hm, by rw [hu, Int.toNat_natCast]; simp [allI, hun]⟩
theorem won_holds (h : ArenaP O zss) (hl : P.length = O.length) (hp : ∀ x ∈ P, 0 ≤ x) :
    (∃ s, HoldsP zss O (nth P) (allI zss.length) (regZ 0 (allI zss.length) (wonZ zss O P)) 0 s) ∧ ∃ s, HoldsP zss O (nth P) (allI zss.length) (regZ 1 (allI zss.length) (wonZ zss O P)) 1 s :=
  winZ_holds (rowsP_of h).inG (fun v hv => (arena_rows h hv).1) (fun v hv => hp _ (nth_mem (by have := h.2.2.1; omega))) _ _ (fun v hv => by simpa [allI] using hv) (markedK_len _ _) (total_all h)

theorem reg_at {who : Int} {win : Nat → Bool} {v : Nat} (hv : v < zss.length) : regZ who (allI zss.length) win v = (win v == decide (who = 0)) := by
  unfold regZ allI; simp [hv]

theorem turn_valid (h : ArenaP O zss) : ArenaP (turnO O) zss := by
  refine ⟨by rw [turnO_len]; exact h.1, by rw [turnO_len]; exact h.2.1, by rw [turnO_len]; exact h.2.2.1, fun k hk => ?_⟩
  rw [turnO_len] at hk
  obtain ⟨h1, h2, h3, h4⟩ := h.2.2.2 k hk
  refine ⟨?_, h2, h3, by rw [turnO_len]; exact h4⟩
  rw [turnO_nth hk]
  omega
theorem moreP_nth {v : Nat} (hv : v < P.length) : nth (moreP P) v = nth P v + 1 := by
  unfold moreP
  rw [nth_eq (by simpa using hv), List.getElem_map, nth_eq hv]
theorem moreP_pos (hp : ∀ x ∈ P, 0 ≤ x) : ∀ x ∈ moreP P, 0 ≤ x := fun x hx => by
  obtain ⟨y, hy, rfl⟩ := List.mem_map.1 hx
  have := hp y hy; omega

/-- The dual game exchanges the winners. -/
theorem won_dual (h : ArenaP O zss) (hl : P.length = O.length) (hp : ∀ x ∈ P, 0 ≤ x) {v : Nat} (hv : v < zss.length) : wonZ zss (turnO O) (moreP P) v = !wonZ zss O P v := by
  have hz := h.2.2.1
  obtain ⟨⟨s0, h0⟩, ⟨s1, h1⟩⟩ := won_holds h hl hp
  obtain ⟨⟨t0, g0⟩, ⟨t1, g1⟩⟩ := won_holds (turn_valid h) (P := moreP P) (by rw [moreP_len, turnO_len]; exact hl) (moreP_pos hp)
  have hI : ∀ u, u < zss.length → allI zss.length u = true := fun u hu => by simp [allI, hu]
  have ho : ∀ who who' : Int, (who = 0 ∧ who' = 0) ∨ (who = 1 ∧ who' = 1) → ∀ u, u < zss.length → (nth O u = who ↔ nth (turnO O) u ≠ who') := fun who who' hw u hu => by
    rw [turnO_nth (by omega)]
    have := (arena_rows h hu).1
    omega
  have hq : ∀ who who' : Int, (who = 0 ∧ who' = 0) ∨ (who = 1 ∧ who' = 1) → ∀ u w : Nat, u < zss.length → w < zss.length → nth P u ≤ nth P w → nth (moreP P) w ≤ nth (moreP P) u → nth P w % 2 = who → nth (moreP P) u % 2 = who' → False := fun who who' hw u w hu hw' h1 h2 h3 h4 => by
    rw [moreP_nth (by omega)] at h2 h4
    rw [moreP_nth (by omega)] at h2
    omega
  have n0 := no_both (rowsP_of h).inG h0 g0 hI hI (ho 0 0 (by omega)) (hq 0 0 (by omega)) v hv
  have n1 := no_both (rowsP_of h).inG h1 g1 hI hI (ho 1 1 (by omega)) (hq 1 1 (by omega)) v hv
  rw [reg_at hv, reg_at hv] at n0 n1
  cases e1 : wonZ zss O P v <;> cases e2 : wonZ zss (turnO O) (moreP P) v <;> rw [e1, e2] at n0 n1 <;> simp at n0 n1 ⊢

/-- Compressing the priorities keeps the winners. -/
theorem won_press (h : ArenaP O zss) (hl : P.length = O.length) (hp : ∀ x ∈ P, 0 ≤ x ∧ x ≤ 40) {v : Nat} (hv : v < zss.length) : wonZ zss O (pressL P) v = wonZ zss O P v := by
  have hz := h.2.2.1
  obtain ⟨⟨s0, h0⟩, ⟨s1, h1⟩⟩ := won_holds h hl (fun x hx => (hp x hx).1)
  obtain ⟨⟨t0, g0⟩, ⟨t1, g1⟩⟩ := won_holds h (P := pressL P) (by rw [pressL_len]; exact hl) (fun x hx => (press_bound hp x hx).1)
  have hI : ∀ u, u < zss.length → allI zss.length u = true := fun u hu => by simp [allI, hu]
  have ho : ∀ who who' : Int, (who = 0 ∧ who' = 1) ∨ (who = 1 ∧ who' = 0) → ∀ u, u < zss.length → (nth O u = who ↔ nth O u ≠ who') := fun who who' hw u hu => by
    have := (arena_rows h hu).1
    omega
  have hq : ∀ who who' : Int, (who = 0 ∧ who' = 1) ∨ (who = 1 ∧ who' = 0) → ∀ u w : Nat, u < zss.length → w < zss.length → nth P u ≤ nth P w → nth (pressL P) w ≤ nth (pressL P) u → nth P w % 2 = who → nth (pressL P) u % 2 = who' → False := fun who who' hw u w hu hw' h1 h2 h3 h4 => by
    have a1 := press_keeps hp (v := u) (by omega)
    have a2 := press_keeps hp (v := w) (by omega)
    have a3 := press_order (P := P) (u := u) (v := w) (by omega) (by omega) h1
    have a4 : nth (pressL P) u = nth (pressL P) w := by omega
    rw [a4] at h4
    omega
  have n0 := no_both (rowsP_of h).inG h0 g1 hI hI (ho 0 1 (by omega)) (hq 0 1 (by omega)) v hv
  have n1 := no_both (rowsP_of h).inG h1 g0 hI hI (ho 1 0 (by omega)) (hq 1 0 (by omega)) v hv
  rw [reg_at hv, reg_at hv] at n0 n1
  cases e1 : wonZ zss O P v <;> cases e2 : wonZ zss O (pressL P) v <;> rw [e1, e2] at n0 n1 <;> simp at n0 n1 ⊢
end
end

section
open Go.RowKit

noncomputable def evenL (zss : List (List Int)) (O P : List Int) : List Int := (upL zss.length).filter fun x => wonZ zss O P x.toNat
noncomputable def oddL (zss : List (List Int)) (O P : List Int) : List Int := (upL zss.length).filter fun x => !wonZ zss O P x.toNat

theorem none_nth {n v : Nat} (h : v < n) : nth (List.replicate n (-1 : Int)) v = -1 := by simp [nth, h]
theorem ints_none {w : World} {k n : Nat} (h : w.rowIs k 2 n (fun _ => .int .i64 (-1))) (hn : n ≤ 256) : IntsAt w (some ⟨k, 0, none⟩) (List.replicate n (-1)) := by
  refine ⟨by simp; omega, fun j hj => ?_, fun _ => ⟨k, 0, rfl, fun j hj => ?_⟩⟩
  · have hj' : j < n := by simpa using hj
    rw [none_nth hj']; unfold Fits; omega
  · have hj' : j < n := by simpa using hj
    rw [Nat.zero_add, none_nth hj']
    exact h.cell hj'
theorem zssE_none {zss : List (List Int)} : zssE zss (List.replicate zss.length (-1)) = zss := by
  refine List.ext_getElem (by rw [zssE_len]) fun v h1 h2 => ?_
  have e1 : (zssE zss (List.replicate zss.length (-1)))[v] = row (zssE zss (List.replicate zss.length (-1))) v := by simp [row, h1]
  have e2 : zss[v] = row zss v := by simp [row, h2]
  rw [e1, e2, zssE_row h2]
  refine List.filter_eq_self.2 fun x _ => ?_
  unfold pickB
  rw [none_nth h2]; rfl
theorem deg_all {zss : List (List Int)} (hz : RowsP zss) {v : Nat} (hv : v < zss.length) : degK (allI zss.length) (List.replicate zss.length (-1)) v (row zss v) = ((row zss v).length : Int) := by
  unfold degK
  rw [List.filter_eq_self.2 fun x hx => ?_]
  obtain ⟨u, hu, hun⟩ := hz.inG v hv x hx
  unfold pickB allI
  rw [none_nth hv, hu]
  simp [hun]
theorem open_allW (n : Nat) : openS (upL n) (upL n).length = allI n := funext fun v => by
  unfold openS allI
  rw [List.take_length, decide_eq_decide, mem_nth]
  constructor
  · rintro ⟨k, hk, e⟩; rw [upL_len] at hk; rw [upL_nth hk] at e; omega
  · intro h; exact ⟨v, by rw [upL_len]; exact h, upL_nth h⟩
theorem up_mem {n : Nat} : ∀ x ∈ upL n, ∃ u : Nat, x = (u : Int) ∧ u < n := fun x hx => by
  obtain ⟨k, hk, e⟩ := mem_nth.1 hx
  rw [upL_len] at hk
  rw [upL_nth hk] at e
  exact ⟨k, e.symm, hk⟩
theorem setFrom_up {n : Int} : ∀ (zs : List Int) (l : Int), zs.Pairwise (· < ·) → (∀ x ∈ zs, l < x ∧ x < n) → setFrom n l zs = true
  | [], _, _, _ => rfl
  | z :: r, l, hp, hb => by
    obtain ⟨h1, h2⟩ := List.pairwise_cons.1 hp
    have hz := hb z (by simp)
    rw [setFrom, decide_eq_true hz]
    exact setFrom_up r z h2 fun x hx => ⟨h1 x hx, (hb x (by simp [hx])).2⟩
theorem up_set (n : Nat) : setB (n : Int) (upL n) = true := by
  refine setFrom_up _ (-1) ?_ fun x hx => ?_
  · rw [← rises_pairwise]
    intro j k hjk hk
    rw [upL_len] at hk
    rw [upL_nth (by omega), upL_nth hk]; omega
  · obtain ⟨u, hu, hun⟩ := up_mem x hx
    omega
/-- Rows of the predecessors, as the solver reads them. -/
theorem prev_rows {w : World} {B g n : Nat} {V : Nat → Value} {R : Nat → List Int} (h : RowSet w B g n V R) (hn : n ≤ 256) : RowsAt w (some ⟨g, 0, none⟩) (fun k => addrOf (V k)) (fun k => capOf (V k)) (rowsOf n R) := by
  have hl := rowsOf_len n R
  refine ⟨by omega, fun _ => ⟨g, 0, rfl, fun k hk => ?_⟩, fun k hk => ?_⟩
  · rw [hl] at hk
    obtain ⟨a, cap, hv, _, _⟩ := (h.rows k hk).shape
    rw [rowsOf_row hk, Nat.zero_add, h.own.cellAt k (by omega)]
    simp [hk, hv, addrOf, capOf]
  · rw [hl] at hk
    obtain ⟨a, cap, hv, hi, _⟩ := (h.rows k hk).shape
    rw [rowsOf_row hk, hv]
    exact hi

theorem rowset_base {w : World} {B B' q n : Nat} {V : Nat → Value} {R : Nat → List Int} (h : RowSet w B q n V R) (hB : B' ≤ B) : RowSet w B' q n V R :=
  ⟨ownsRow_base h.own hB, fun u hu => (h.rows u hu).base hB, h.apart⟩

end

end Go.Proofs.Ytjnbpllalbfeiaa
