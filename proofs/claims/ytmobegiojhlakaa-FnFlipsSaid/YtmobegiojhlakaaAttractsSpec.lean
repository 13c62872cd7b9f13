/-
  Contracts: the model's ranks, attractors and traps.
-/
import Derived.Test.YtmobegiojhlakaaZielonka
import Derived.Test.YtmobegiojhlakaaReachSpec
import Derived.Test.YtmobegiojhlakaaLoops
import Derived.Test.YtmobegiojhlakaaSame
import Derived.Test.YtmobegiojhlakaaWalk
import Derived.Test.YtmobegiojhlakaaFn
import Derived.Deep.RegionHeld3
namespace Go.Proofs.Ytmobegiojhlakaa
section
open Go.RowKit

theorem l1Max_is {x y r : Int} (hr : (if x < y then y else x) = r) (w : World) : Calls Try.prog 113 #[.int .i64 x, .int .i64 y] w fun e w' => e = .returned (.int .i64 r) ∧ w = w' := by
  by_cases h : y < x
  · have hE : Hid (r = x) := by rw [← hr, if_neg (by omega)]; rfl
    clear hr
    go_enter Try.func113, Try.ntmps113
    go_wp2
    go_ret
    exact ⟨by rw [hE.out]; rfl, rfl⟩
  · have hE : Hid (r = y) := by
      rw [← hr]; unfold Hid
      split <;> omega
    clear hr
    go_enter Try.func113, Try.ntmps113
    go_wp2
    go_ret
    exact ⟨by rw [hE.out]; rfl, rfl⟩

/-- Are the arena, the player and the set valid? -/
noncomputable def okB (O : List Int) (zss : List (List Int)) (who : Int) (S : List Int) : Bool := arenaB O zss && (inB who 0 1 && setB O.length S)

theorem drop_cons {zs : List Int} {k : Nat} (h : k < zs.length) : zs.drop k = nth zs k :: zs.drop (k + 1) := by
  rw [nth_eq h]; exact List.drop_eq_getElem_cons h

end

section
open Go.RowKit

theorem rkF_congr {own : Bool} {I : Nat → Bool} {rk rk' : Nat → Int} : ∀ (us : List Int) (l m : Int), (∀ u ∈ us, rk u.toNat = rk' u.toNat) → rkF own I rk l m us = rkF own I rk' l m us
  | [], _, _, _ => rfl
  | u :: us, l, m, h => by
    have hu := h u (by simp)
    have ht : ∀ x ∈ us, rk x.toNat = rk' x.toNat := fun x hx => h x (by simp [hx])
    rw [rkF, rkF, hu, rkF_congr us l m ht, rkF_congr us _ _ ht]

theorem box2_keep {S : Nat → Prop} {W W' : World} {g : Nat} {t : TypeId} {u v : Value} (h : Box2 W g t u v) (hk : Only S W W') (hs : ¬ S g) : Box2 W' g t u v := (hk.block _ h.lt hs).trans h

/-- The first ranks while the goal is read. -/
def goalF (I : Nat → Bool) (G : List Int) (k : Nat) : Nat → Int := fun u => if I u = true ∧ openS G k u = true then 0 else -1

theorem openS_at {S : List Int} {k u v : Nat} (hk : k < S.length) (hu : nth S k = (u : Int)) : openS S (k + 1) v = (if v = u then true else openS S k v) := by
  rw [openS_succ hk hu]; rfl

theorem goalF_succ {I : Nat → Bool} {G : List Int} {k u : Nat} (hk : k < G.length) (hu : nth G k = (u : Int)) (i : Nat) : goalF I G (k + 1) i = if i = u ∧ I u = true then 0 else goalF I G k i := by
  unfold goalF
  rw [openS_at hk hu]
  by_cases e : i = u
  · subst e
    by_cases hI : I i = true <;> simp [hI]
  · simp [e]

theorem rkK_zero {zss : List (List Int)} {O : List Int} {who : Int} {I : Nat → Bool} {G : List Int} (u : Nat) : goalF I G G.length u = rkK zss O who I (openS G G.length) 0 u := rfl

/-- The ranks while the next ones are given. -/
noncomputable def midF (zss : List (List Int)) (O : List Int) (who : Int) (In : List Int) (G : Nat → Bool) (j k : Nat) : Nat → Int :=
  fun u => if openS In k u = true then rkK zss O who (openS In In.length) G (j + 1) u else rkK zss O who (openS In In.length) G j u

theorem midF_zero {zss : List (List Int)} {O : List Int} {who : Int} {In : List Int} {G : Nat → Bool} {j u : Nat} : midF zss O who In G j 0 u = rkK zss O who (openS In In.length) G j u := by simp [midF, openS]
theorem midF_succ {zss : List (List Int)} {O : List Int} {who : Int} {In : List Int} {G : Nat → Bool} {j k u : Nat} (hk : k < In.length) (hu : nth In k = (u : Int)) (i : Nat) :
    midF zss O who In G j (k + 1) i = if i = u then rkK zss O who (openS In In.length) G (j + 1) u else midF zss O who In G j k i := by
  unfold midF
  rw [openS_at hk hu]
  by_cases e : i = u
  · subst e; simp
  · simp [e]
theorem midF_full {zss : List (List Int)} {O : List Int} {who : Int} {In : List Int} {G : Nat → Bool} {j u : Nat} : midF zss O who In G j In.length u = rkK zss O who (openS In In.length) G (j + 1) u := by
  unfold midF
  split
  · rfl
  · next h =>
    by_cases h0 : 0 ≤ rkK zss O who (openS In In.length) G j u
    · rw [rkK_old h0]
    · rw [rkK, if_neg h0, if_neg (fun hh => h hh.1)]
      have := (rkK_bound (zss := zss) (O := O) (who := who) (I := openS In In.length) (G := G) j u).1
      omega

theorem midF_keep {zss : List (List Int)} {O : List Int} {who : Int} {In : List Int} {G : Nat → Bool} {j k u : Nat} (hk : k < In.length) (hu : nth In k = (u : Int)) (h : rkK zss O who (openS In In.length) G (j + 1) u = rkK zss O who (openS In In.length) G j u) (i : Nat) :
    midF zss O who In G j k i = midF zss O who In G j (k + 1) i := by
  rw [midF_succ hk hu]
  by_cases e : i = u
  · subst e
    unfold midF
    split <;> simp [h]
  · simp [e]

theorem copyF_at {w : World} {B g cap n : Nat} {f : Nat → Int} (hn : 0 < n) (h : OwnF w B g cap n f) :
    Calls Try.prog 95 #[.slice (some ⟨g, 0, none⟩) n cap] w fun e w' => ∃ g2 cap2, e = .returned (.slice (some ⟨g2, 0, none⟩) n cap2) ∧ OwnF w' w.heap.size g2 cap2 n f ∧ Below w.heap.size w w' := by
  have hc := l1Copy_is cap h.ints
  rw [fnL_len] at hc
  refine hc.mono ?_
  rintro e w' ⟨v, rfl, hv, hb⟩
  obtain ⟨a, c, hs, -, hbk⟩ := hv.shape
  obtain ⟨g2, rfl, _⟩ := hbk (by rw [fnL_len]; exact hn)
  rw [fnL_len] at hs
  subst hs
  exact ⟨g2, c, rfl, hv, hb⟩

theorem sameF_at {w : World} {B B' g g' cap cap' n : Nat} {f f' : Nat → Int} {r : Bool} (hr : decide (fnL n f = fnL n f') = r) (h : OwnF w B g cap n f) (h' : OwnF w B' g' cap' n f') :
    Calls Try.prog 73 #[.slice (some ⟨g, 0, none⟩) n cap, .slice (some ⟨g', 0, none⟩) n cap'] w fun e w' => e = .returned (.bool r) ∧ ∃ q, w' = w.drewN q := by
  have hc := l1Same_is hr w cap cap' h.ints h'.ints
  rw [fnL_len, fnL_len] at hc
  exact hc

end

section
open Go.RowKit

noncomputable def ranksF (O : List Int) (zss : List (List Int)) (who : Int) (In G : List Int) : Nat → Int := rkK zss O who (openS In In.length) (openS G G.length) zss.length
noncomputable def bothB (O : List Int) (zss : List (List Int)) (who : Int) (In G : List Int) : Bool := okB O zss who In && okB O zss who G
noncomputable def ranksL (O : List Int) (zss : List (List Int)) (who : Int) (In G : List Int) : List Int := if bothB O zss who In G = true then fnL zss.length (ranksF O zss who In G) else []
noncomputable def attractL (O : List Int) (zss : List (List Int)) (who : Int) (In G : List Int) : List Int := if bothB O zss who In G = true then markedK (fun v => decide (0 ≤ ranksF O zss who In G v)) zss.length else []
/-- The first of the rank r - 1. -/
def pullF (rk : Nat → Int) (r : Int) : List Int → Int
  | [] => -1
  | u :: us => if rk u.toNat = r - 1 then u else pullF rk r us
noncomputable def pullV (O : List Int) (zss : List (List Int)) (who : Int) (In G : List Int) (v : Nat) : Int :=
  if nth O v = who ∧ 0 < ranksF O zss who In G v then pullF (ranksF O zss who In G) (ranksF O zss who In G v) (row zss v) else -1
noncomputable def pullL (O : List Int) (zss : List (List Int)) (who : Int) (In G : List Int) : List Int := if bothB O zss who In G = true then fnL zss.length (pullV O zss who In G) else []

theorem okB_yes {O : List Int} {zss : List (List Int)} {who : Int} {S : List Int} (h : okB O zss who S = true) : ArenaP O zss ∧ (who = 0 ∨ who = 1) ∧ setB O.length S = true := by
  unfold okB at h
  rw [Bool.and_eq_true, Bool.and_eq_true] at h
  refine ⟨arenaB_iff.1 h.1, ?_, h.2.2⟩
  have := h.2.1
  unfold inB at this
  have := of_decide_eq_true this
  omega
theorem bothB_yes {O : List Int} {zss : List (List Int)} {who : Int} {In G : List Int} (h : bothB O zss who In G = true) : ArenaP O zss ∧ (who = 0 ∨ who = 1) ∧ setB O.length In = true ∧ setB O.length G = true := by
  unfold bothB at h
  rw [Bool.and_eq_true] at h
  exact ⟨(okB_yes h.1).1, (okB_yes h.1).2.1, (okB_yes h.1).2.2, (okB_yes h.2).2.2⟩

/-- An empty slice of one's own. -/
theorem own_empty {w0 w : World} (hb : Below w0.heap.size w0 w) : OwnInts (w.alloc (.cells #[] 2)) w0.heap.size (w.alloc (.cells #[] 2)).heap.size (.slice (some ⟨w.heap.size, 0, none⟩) 0 0) [] ∧ Below w0.heap.size w0 (w.alloc (.cells #[] 2)) :=
  ⟨OwnInts.mk' (World.ownsRow_made w #[] 0 hb.size (by unfold maxLen; omega) rfl) (by simp) (fun k hk => absurd hk (by simp)), hb.alloc hb.size _⟩

end

end Go.Proofs.Ytmobegiojhlakaa
