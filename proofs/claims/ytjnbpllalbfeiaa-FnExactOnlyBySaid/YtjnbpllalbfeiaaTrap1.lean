/-
  Contracts: the model's ranks, attractors and traps.
-/
import Derived.Test.YtjnbpllalbfeiaaZielonka
import Derived.Test.YtjnbpllalbfeiaaWalks1
import Derived.Test.YtjnbpllalbfeiaaLoops
import Derived.Test.YtjnbpllalbfeiaaSame
import Derived.Deep.RegionHeld3
import Derived.Test.YtjnbpllalbfeiaaDraw1
import Derived.Maps.AppendAt
namespace Go.Proofs.Ytjnbpllalbfeiaa
section
section
open Go.RowKit

/-- Are the arena, the player and the set valid? -/
noncomputable def okB (O : List Int) (zss : List (List Int)) (who : Int) (S : List Int) : Bool := arenaB O zss && (inB who 0 1 && setB O.length S)

theorem drop_cons {zs : List Int} {k : Nat} (h : k < zs.length) : zs.drop k = nth zs k :: zs.drop (k + 1) := by
  rw [nth_eq h]; exact List.drop_eq_getElem_cons h

end

section
open Go.RowKit

theorem rkF_congr {own : Bool} {I : Nat → Bool} {rk rk' : Nat → Int} : ∀ (us : List Int) (l m : Int), (∀ u ∈ us, rk u.toNat = rk' u.toNat) → rkF own I rk l m us = rkF own I rk' l m us
  | [], _, _, _ => rfl
  | u :: us, l, m, h => by
    have hu := h u (by simp)
    have ht : ∀ x ∈ us, rk x.toNat = rk' x.toNat := fun x hx => h x (by simp [hx])
    rw [rkF, rkF, hu, rkF_congr us l m ht, rkF_congr us _ _ ht]

theorem box2_keep {S : Nat → Prop} {W W' : World} {g : Nat} {t : TypeId} {u v : Value} (h : Box2 W g t u v) (hk : Only S W W') (hs : ¬ S g) : Box2 W' g t u v := (hk.block _ h.lt hs).trans h

/-- The first ranks while the goal is read. -/
def goalF (I : Nat → Bool) (G : List Int) (k : Nat) : Nat → Int := fun u => if I u = true ∧ openS G k u = true then 0 else -1

theorem openS_at {S : List Int} {k u v : Nat} (hk : k < S.length) (hu : nth S k = (u : Int)) : openS S (k + 1) v = (if v = u then true else openS S k v) := by
  rw [openS_succ hk hu]; rfl

theorem goalF_succ {I : Nat → Bool} {G : List Int} {k u : Nat} (hk : k < G.length) (hu : nth G k = (u : Int)) (i : Nat) : goalF I G (k + 1) i = if i = u ∧ I u = true then 0 else goalF I G k i := by
  unfold goalF
  rw [openS_at hk hu]
  by_cases e : i = u
  · subst e
    by_cases hI : I i = true <;> simp [hI]
  · simp [e]

theorem rkK_zero {zss : List (List Int)} {O : List Int} {who : Int} {I : Nat → Bool} {G : List Int} (u : Nat) : goalF I G G.length u = rkK zss O who I (openS G G.length) 0 u := rfl

/-- The ranks while the next ones are given. -/
noncomputable def midF (zss : List (List Int)) (O : List Int) (who : Int) (In : List Int) (G : Nat → Bool) (j k : Nat) : Nat → Int :=
  fun u => if openS In k u = true then rkK zss O who (openS In In.length) G (j + 1) u else rkK zss O who (openS In In.length) G j u

theorem midF_zero {zss : List (List Int)} {O : List Int} {who : Int} {In : List Int} {G : Nat → Bool} {j u : Nat} : midF zss O who In G j 0 u = rkK zss O who (openS In In.length) G j u := by simp [midF, openS]
theorem midF_succ {zss : List (List Int)} {O : List Int} {who : Int} {In : List Int} {G : Nat → Bool} {j k u : Nat} (hk : k < In.length) (hu : nth In k = (u : Int)) (i : Nat) :
    midF zss O who In G j (k + 1) i = if i = u then rkK zss O who (openS In In.length) G (j + 1) u else midF zss O who In G j k i := by
  unfold midF
  rw [openS_at hk hu]
  by_cases e : i = u
  · subst e; simp
  · simp [e]
theorem midF_full {zss : List (List Int)} {O : List Int} {who : Int} {In : List Int} {G : Nat → Bool} {j u : Nat} : midF zss O who In G j In.length u = rkK zss O who (openS In In.length) G (j + 1) u := by
  unfold midF
  split
  · rfl
  · next h =>
    by_cases h0 : 0 ≤ rkK zss O who (openS In In.length) G j u
    · rw [rkK_old h0]
    · rw [rkK, if_neg h0, if_neg (fun hh => h hh.1)]
      have := (rkK_bound (zss := zss) (O := O) (who := who) (I := openS In In.length) (G := G) j u).1
      omega

theorem midF_keep {zss : List (List Int)} {O : List Int} {who : Int} {In : List Int} {G : Nat → Bool} {j k u : Nat} (hk : k < In.length) (hu : nth In k = (u : Int)) (h : rkK zss O who (openS In In.length) G (j + 1) u = rkK zss O who (openS In In.length) G j u) (i : Nat) :
    midF zss O who In G j k i = midF zss O who In G j (k + 1) i := by
  rw [midF_succ hk hu]
  by_cases e : i = u
  · subst e
    unfold midF
    split <;> simp [h]
  · simp [e]

theorem copyF_at {w : World} {B g cap n : Nat} {f : Nat → Int} (hn : 0 < n) (h : OwnF w B g cap n f) :
    Calls Try.prog 18 #[.slice (some ⟨g, 0, none⟩) n cap] w fun e w' => ∃ g2 cap2, e = .returned (.slice (some ⟨g2, 0, none⟩) n cap2) ∧ OwnF w' w.heap.size g2 cap2 n f ∧ Below w.heap.size w w' := by
  have hc := l1Copy_is cap h.ints
  rw [fnL_len] at hc
  refine hc.mono ?_
  rintro e w' ⟨v, rfl, hv, hb⟩
  obtain ⟨a, c, hs, -, hbk⟩ := hv.shape
  obtain ⟨g2, rfl, _⟩ := hbk (by rw [fnL_len]; exact hn)
  rw [fnL_len] at hs
  subst hs
  exact ⟨g2, c, rfl, hv, hb⟩

end

section
open Go.RowKit

noncomputable def ranksF (O : List Int) (zss : List (List Int)) (who : Int) (In G : List Int) : Nat → Int := rkK zss O who (openS In In.length) (openS G G.length) zss.length
noncomputable def bothB (O : List Int) (zss : List (List Int)) (who : Int) (In G : List Int) : Bool := okB O zss who In && okB O zss who G
noncomputable def ranksL (O : List Int) (zss : List (List Int)) (who : Int) (In G : List Int) : List Int := if bothB O zss who In G = true then fnL zss.length (ranksF O zss who In G) else []
noncomputable def attractL (O : List Int) (zss : List (List Int)) (who : Int) (In G : List Int) : List Int := if bothB O zss who In G = true then markedK (fun v => decide (0 ≤ ranksF O zss who In G v)) zss.length else []
/-- The first of the rank r - 1. -/
def pullF (rk : Nat → Int) (r : Int) : List Int → Int
  | [] => -1
  | u :: us => if rk u.toNat = r - 1 then u else pullF rk r us
noncomputable def pullV (O : List Int) (zss : List (List Int)) (who : Int) (In G : List Int) (v : Nat) : Int :=
  if nth O v = who ∧ 0 < ranksF O zss who In G v then pullF (ranksF O zss who In G) (ranksF O zss who In G v) (row zss v) else -1
noncomputable def pullL (O : List Int) (zss : List (List Int)) (who : Int) (In G : List Int) : List Int := if bothB O zss who In G = true then fnL zss.length (pullV O zss who In G) else []

theorem okB_yes {O : List Int} {zss : List (List Int)} {who : Int} {S : List Int} (h : okB O zss who S = true) : ArenaP O zss ∧ (who = 0 ∨ who = 1) ∧ setB O.length S = true := by
  unfold okB at h
  rw [Bool.and_eq_true, Bool.and_eq_true] at h
  refine ⟨arenaB_iff.1 h.1, ?_, h.2.2⟩
  have := h.2.1
  unfold inB at this
  have := of_decide_eq_true this
  omega
theorem bothB_yes {O : List Int} {zss : List (List Int)} {who : Int} {In G : List Int} (h : bothB O zss who In G = true) : ArenaP O zss ∧ (who = 0 ∨ who = 1) ∧ setB O.length In = true ∧ setB O.length G = true := by
  unfold bothB at h
  rw [Bool.and_eq_true] at h
  exact ⟨(okB_yes h.1).1, (okB_yes h.1).2.1, (okB_yes h.1).2.2, (okB_yes h.2).2.2⟩

/-- An empty slice of one's own. -/
theorem own_empty {w0 w : World} (hb : Below w0.heap.size w0 w) : OwnInts (w.alloc (.cells #[] 2)) w0.heap.size (w.alloc (.cells #[] 2)).heap.size (.slice (some ⟨w.heap.size, 0, none⟩) 0 0) [] ∧ Below w0.heap.size w0 (w.alloc (.cells #[] 2)) :=
  ⟨OwnInts.mk' (World.ownsRow_made w #[] 0 hb.size (by unfold maxLen; omega) rfl) (by simp) (fun k hk => absurd hk (by simp)), hb.alloc hb.size _⟩

end
end

section
open Go.RowKit

/-- Does a vertex stay, by its successors? -/
def staysF (own : Bool) (I : Nat → Bool) : Bool → List Int → Bool
  | s, [] => s
  | s, u :: us => if I u.toNat = false ∧ own = true then false else staysF own I (s || I u.toNat) us

def escB (O : List Int) (zss : List (List Int)) (who : Int) (S : List Int) : Int → Bool := fun x => !staysF (ownB O who x.toNat) (openS S S.length) false (row zss x.toNat)
noncomputable def escapesL (O : List Int) (zss : List (List Int)) (who : Int) (S : List Int) : List Int := if okB O zss who S = true then S.filter (escB O zss who S) else []
noncomputable def trapB (O : List Int) (zss : List (List Int)) (who : Int) (S : List Int) : Bool := okB O zss who S && decide ((escapesL O zss who S).length = 0)

theorem filter_step (p : Int → Bool) {S : List Int} {k : Nat} (h : k < S.length) : (S.take (k + 1)).filter p = (S.take k).filter p ++ (if p (nth S k) = true then [nth S k] else []) := by
  rw [List.take_add_one, List.getElem?_eq_getElem h, List.filter_append, nth_eq h]
  congr 1
  simp [List.filter_cons]
theorem Only.later3 {S T : Nat → Prop} {a b c : World} (h : Only S a b) (k : Only T b c) (hT : ∀ i, T i → S i ∨ a.heap.size ≤ i) : Only S a c :=
  ⟨k.os.trans h.os, k.tape.trans h.tape, k.output.trans h.output, Nat.le_trans h.size k.size, fun i hi hs => (k.block i (Nat.lt_of_lt_of_le hi h.size) (fun ht => by rcases hT i ht with h1 | h1 <;> first | exact hs h1 | omega)).trans (h.block i hi hs)⟩

end

section
section
open Go.RowKit

noncomputable def askB (O : List Int) (zss : List (List Int)) (who : Int) (Ss : List (List Int)) : Bool := arenaB O zss && inB who 0 1 && Ss.all (setB O.length)

end

section
open Go.RowKit

theorem staysF_eq {own : Bool} {I : Nat → Bool} : ∀ (us : List Int) (s : Bool), staysF own I s us = (!(own && us.any fun u => !I u.toNat) && (s || us.any fun u => I u.toNat))
  | [], s => by simp [staysF]
  | u :: us, s => by
    rw [staysF]
    cases hI : I u.toNat with
    | false =>
      cases own with
      | true => simp [hI]
      | false => rw [if_neg (by simp), staysF_eq us]; simp [hI]
    | true => rw [if_neg (by simp), staysF_eq us]; simp [hI]

theorem inT_open {S : List Int} {x : Int} (hx : 0 ≤ x) : inT S x = openS S S.length x.toNat := by
  unfold inT hasB openS; rw [List.take_length, Int.toNat_of_nonneg hx]

/-- A vertex escapes, by what its successors part into. -/
theorem escB_eq {O : List Int} {zss : List (List Int)} {who : Int} {S : List Int} {u : Nat} (hpos : ∀ x ∈ row zss u, 0 ≤ x) :
    escB O zss who S (u : Int) = ((ownB O who u && decide (0 < ((row zss u).filter (outT S)).length)) || decide (((row zss u).filter (inT S)).length = 0)) := by
  have e1 : (row zss u).any (fun x => !openS S S.length x.toNat) = decide (0 < ((row zss u).filter (outT S)).length) := by
    rw [Bool.eq_iff_iff, List.any_eq_true, decide_eq_true_iff, List.length_pos_iff_exists_mem]
    constructor
    · rintro ⟨x, hx, h⟩
      exact ⟨x, List.mem_filter.2 ⟨hx, by rw [← inT_open (hpos x hx)] at h; exact h⟩⟩
    · rintro ⟨x, h⟩
      obtain ⟨hx, h⟩ := List.mem_filter.1 h
      exact ⟨x, hx, by rw [← inT_open (hpos x hx)]; exact h⟩
  have e2 : (row zss u).any (fun x => openS S S.length x.toNat) = decide (0 < ((row zss u).filter (inT S)).length) := by
    rw [Bool.eq_iff_iff, List.any_eq_true, decide_eq_true_iff, List.length_pos_iff_exists_mem]
    constructor
    · rintro ⟨x, hx, h⟩
      exact ⟨x, List.mem_filter.2 ⟨hx, by rw [← inT_open (hpos x hx)] at h; exact h⟩⟩
    · rintro ⟨x, h⟩
      obtain ⟨hx, h⟩ := List.mem_filter.1 h
      exact ⟨x, hx, by rw [← inT_open (hpos x hx)]; exact h⟩
  unfold escB
  rw [Int.toNat_natCast, staysF_eq, e1, e2]
  by_cases h : ((row zss u).filter (inT S)).length = 0
  · simp [h]
  · have h' : 0 < ((row zss u).filter (inT S)).length := by omega
    simp [h, h']

theorem askB_one {O : List Int} {zss : List (List Int)} {who : Int} {S : List Int} : askB O zss who [S] = okB O zss who S := by simp [askB, okB, Bool.and_assoc]
theorem askB_two {O : List Int} {zss : List (List Int)} {who : Int} {S T : List Int} : askB O zss who [S, T] = bothB O zss who S T := by
  unfold askB bothB okB
  cases arenaB O zss <;> cases inB who 0 1 <;> simp

end
end

end Go.Proofs.Ytjnbpllalbfeiaa
