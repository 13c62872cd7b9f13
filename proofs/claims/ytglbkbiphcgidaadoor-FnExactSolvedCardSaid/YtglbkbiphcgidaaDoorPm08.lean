import Derived.Deep.RegionHeld3
import Derived.Lib.TrailingZeros
import Derived.Laws.BitsAllLaws
import Derived.LoopN
import Derived.Laws.Rows
import Derived.Test.YtglbkbiphcgidaaDoorProg
import Derived.WideKeyRuns
import Derived.DeepKeys3
import Derived.Carry
import Derived.KernelRfl
import Derived.IntWalk
import Derived.RangeFuncBox
import Derived.RangeFuncLeaves
import Derived.RangeFuncNested
import Derived.RangeFuncBound
import Derived.RangeFuncCalls
import Derived.RangeFuncWrites
import Derived.Shelf.Abstract
import Derived.Shelf.RegionOpen
import Derived.WalkKit
import Derived.OwnWalkIn
import Derived.TacticsInMore
import Derived.LoopNIn
import Derived.LoopIn
import Derived.OrdersHeld
import Derived.OrdersIn
import Derived.Test.YtglbkbiphcgidaaDoorPm00
import Derived.Test.YtglbkbiphcgidaaDoorPm02
import Derived.Test.YtglbkbiphcgidaaDoorPm04
import Derived.Test.YtglbkbiphcgidaaDoorPm06
import Derived.Test.YtglbkbiphcgidaaDoorPm07
namespace Go.Proofs.YtglbkbiphcgidaaDoor
open Go.RowKit
end Go.Proofs.YtglbkbiphcgidaaDoor
namespace Go.Proofs.YtglbkbiphcgidaaDoor
section
open Go.RowKit
theorem ND {ah : List (List Int)} {O : List Int} {p : Nat → Int} (hin : ig ah) {I W W' : Nat → Bool} {who who' : Int} {s s' : Nat → Nat} (h : dF ah O p I W who s) (h' : dF ah O p I W' who' s')
 (ho : ∀ v, v < ah.length → (nth O v = who ↔ nth O v ≠ who')) (hne : who ≠ who') : ∀ v, v < ah.length → ¬ (W v = true ∧ W' v = true) := by
 rintro v0 hv0 ⟨hw0, af8⟩
 obtain ⟨f, hf⟩ : ∃ f : Nat → Nat, f = fun v => if nth O v = who then s v else s' v := ⟨_, rfl⟩
 have hstep : ∀ v, v < ah.length → W v = true → W' v = true → f v < ah.length ∧ W (f v) = true ∧ W' (f v) = true ∧ Fv ah O who W s v (f v) ∧ Fv ah O who' W' s' v (f v) := fun v hv hw hw' => by
  by_cases hov : nth O v = who
  · have e : f v = s v := by rw [hf]; exact if_pos hov
    have h1 := h.own v hv hw hov
    obtain ⟨y, hy, hyn⟩ := hin v hv _ h1.1
    have hsn : s v < ah.length := by omega
    have h2 := h'.bQ v hv hw' ((ho v hv).1 hov) _ h1.1 (by rw [Int.toNat_natCast]; exact h.sub _ h1.2)
    rw [Int.toNat_natCast] at h2
    rw [e]
    exact ⟨hsn, h1.2, h2, ⟨hw, hv, h1.1, h1.2, fun _ => rfl⟩, ⟨hw', hv, h1.1, h2, fun hh => absurd hh ((ho v hv).1 hov)⟩⟩
  · have e : f v = s' v := by rw [hf]; exact if_neg hov
    have af9 : nth O v = who' := Classical.byContradiction fun hh => hov ((ho v hv).2 hh)
    have h1 := h'.own v hv hw' af9
    obtain ⟨y, hy, hyn⟩ := hin v hv _ h1.1
    have hsn : s' v < ah.length := by omega
    have h2 := h.bQ v hv hw hov _ h1.1 (by rw [Int.toNat_natCast]; exact h'.sub _ h1.2)
    rw [Int.toNat_natCast] at h2
    rw [e]
    exact ⟨hsn, h2, h1.2, ⟨hw, hv, h1.1, h2, fun hh => absurd hh hov⟩, ⟨hw', hv, h1.1, h1.2, fun _ => rfl⟩⟩
 obtain ⟨c0, hc0⟩ : ∃ c0 : Nat → Nat, c0 = fun i => Nat.rec v0 (fun _ x => f x) i := ⟨_, rfl⟩
 have hz : c0 0 = v0 := by subst hc0; rfl
 have hs : ∀ i, c0 (i + 1) = f (c0 i) := fun i => by subst hc0; rfl
 have hall : ∀ i, c0 i < ah.length ∧ W (c0 i) = true ∧ W' (c0 i) = true := fun i => by
  induction i with
  | zero => rw [hz]; exact ⟨hv0, hw0, af8⟩
  | succ i ih =>
    have h1 := hstep _ ih.1 ih.2.1 ih.2.2
    rw [hs i]; exact ⟨h1.1, h1.2.1, h1.2.2.1⟩
 obtain ⟨i, j, hij, he⟩ := afa fun i => (hall i).1
 have aga : ∀ k, c0 (j + k) = c0 (i + k) := fun k => by
  induction k with
  | zero => exact he.symm
  | succ k ih => rw [← Nat.add_assoc, ← Nat.add_assoc, hs, hs, ih]
 have hp1 : ∀ k, c0 (i + (k + (j - i))) = c0 (i + k) := fun k => by rw [← aga k]; congr 1; omega
 have hl : qK (Fv ah O who W s) (fun k => c0 (i + k)) (j - i) := ⟨by omega, hp1, fun k => by
  have h1 := hall (i + k)
  have h2 := (hstep _ h1.1 h1.2.1 h1.2.2).2.2.2.1
  rw [← hs] at h2; exact h2⟩
 have hl' : qK (Fv ah O who' W' s') (fun k => c0 (i + k)) (j - i) := ⟨by omega, hp1, fun k => by
  have h1 := hall (i + k)
  have h2 := (hstep _ h1.1 h1.2.1 h1.2.2).2.2.2.2
  rw [← hs] at h2; exact h2⟩
 obtain ⟨a, ha⟩ := hl.max p
 exact hne ((h.wins _ _ hl a ha).symm.trans (h'.wins _ _ hl' a ha))
end
section
open Go.RowKit
noncomputable def bC (ah : List (List Int)) (O P : List Int) (who : Int) : Nat → Bool := dK who (allI ah.length) (oG ah O P)
noncomputable def bD (ah : List (List Int)) (O P Pk : List Int) : Nat → List Int
 | 0 => Pk
 | k + 1 => if 0 ≤ nth (bD ah O P Pk k) k ∨ nth (dJ ah O P) k ≠ nth O k then bD ah O P Pk k
   else (bD ah O P Pk k).set k (gu (fun u => fC ah O P ((bD ah O P Pk k).set k u) (bC ah O P (nth O k)) (nth O k)) (bC ah O P (nth O k)) (row ah k))
theorem aav {hold : Int → Bool} {I : Nat → Bool} : ∀ {us : List Int}, (∃ u ∈ us, I u.toNat = true ∧ hold u = true) → gu hold I us ∈ us ∧ I (gu hold I us).toNat = true ∧ hold (gu hold I us) = true
 | [], h => by obtain ⟨u, hu, _⟩ := h; cases hu
 | a :: us, h => by
   rw [gu]
   by_cases e : (I a.toNat && hold a) = true
   · rw [if_pos e]
     rw [Bool.and_eq_true] at e
     exact ⟨by simp, e.1, e.2⟩
   · rw [if_neg e]
     obtain ⟨u, hu, h1, h2⟩ := h
     rcases List.mem_cons.1 hu with rfl | hu
     · exact absurd (by rw [h1, h2]; rfl) e
     · have ih := aav (hold := hold) (I := I) ⟨u, hu, h1, h2⟩
       exact ⟨by simp [ih.1], ih.2⟩
theorem nP {Pk : List Int} {k : Nat} {u : Int} (hk : k < Pk.length) (j : Nat) : nth (Pk.set k u) j = if j = k then u else nth Pk j := by
 unfold nth
 rw [List.getD_eq_getElem?_getD, List.getD_eq_getElem?_getD, List.getElem?_set]
 by_cases e : k = j
 · subst e; simp [hk]
 · simp [e, Ne.symm e]
section
variable {ah : List (List Int)} {O P : List Int}
theorem Gl {who : Int} {v : Nat} (h : bC ah O P who v = true) : v < ah.length := by
 unfold bC dK allI at h
 rw [Bool.and_eq_true, decide_eq_true_eq] at h
 exact h.1
theorem agb {who : Int} {v : Nat} (hv : v < ah.length) : bC ah O P who v = (oG ah O P v == decide (who = 0)) := afI hv
theorem Dq {who : Int} (hw : who = 0 ∨ who = 1) {v : Nat} (hv : v < ah.length) : bC ah O P who v = true ↔ nth (dJ ah O P) v = who := by
 rw [agb hv, Ny hv]
 cases hwz : oG ah O P v <;> rcases hw with rfl | rfl <;> simp
def wQ (ah : List (List Int)) (O P Pk : List Int) (who : Int) : Prop := ∃ s, dF (bU ah Pk) O (nth P) (bC ah O P who) (bC ah O P who) who s
theorem agc (hA : lJ O ah) (hl : P.length = O.length) (hp : ∀ x ∈ P, 0 ≤ x) {who : Int} (hw : who = 0 ∨ who = 1) {v : Nat} (hv : v < ah.length) (hR : bC ah O P who v = true) (ho : nth O v ≠ who) : ∀ x ∈ row ah v, bC ah O P who x.toNat = true := fun x hx => by
 have h := won_holds hA hl hp
 have hs : ∃ s, dF ah O (nth P) (allI ah.length) (bC ah O P who) who s := by
  rcases hw with rfl | rfl
  · exact h.1
  · exact h.2
 obtain ⟨s, hs⟩ := hs
 refine hs.bQ v hv hR ho x hx ?_
 obtain ⟨y, hy, hyn⟩ := (jL hA).eu v hv x hx
 rw [hy, Int.toNat_natCast]
 unfold allI
 exact decide_eq_true hyn
theorem aaw (hA : lJ O ah) (hl : P.length = O.length) (hp : ∀ x ∈ P, 0 ≤ x) {Pk : List Int} {who : Int} (hw : who = 0 ∨ who = 1) (l9 : ∀ v, bC ah O P who v = true → nth O v ≠ who → nth Pk v < 0)
 (hown : ∀ v, v < ah.length → bC ah O P who v = true → nth O v = who → ∃ x ∈ row (bU ah Pk) v, bC ah O P who x.toNat = true) : fE (bU ah Pk) (bC ah O P who) := fun v hv hR => by
 rw [dQ] at hv
 by_cases ho : nth O v = who
 · exact hown v hv hR ho
 · have h1 := tK hA hv
   have hm := jo (zs := row ah v) (k := 0) (by omega)
   refine ⟨nth (row ah v) 0, ?_, agc hA hl hp hw hv hR ho _ hm⟩
   rw [jM hv, List.mem_filter]
   refine ⟨hm, ?_⟩
   unfold jX
   rw [decide_eq_true (l9 v hR ho)]; rfl
theorem aax (hA : lJ O ah) (hl : P.length = O.length) (hp : ∀ x ∈ P, 0 ≤ x) {Pk : List Int} {who : Int} (hw : who = 0 ∨ who = 1) (l9 : ∀ v, bC ah O P who v = true → nth O v ≠ who → nth Pk v < 0) (h : wQ ah O P Pk who) : fE (bU ah Pk) (bC ah O P who) := by
 obtain ⟨s, hs⟩ := h
 refine aaw hA hl hp hw l9 fun v hv hR ho => ?_
 have h1 := hs.own v (by rw [dQ]; exact hv) hR ho
 exact ⟨_, h1.1, by rw [Int.toNat_natCast]; exact h1.2⟩
theorem win_holds (hA : lJ O ah) (hl : P.length = O.length) (hp : ∀ x ∈ P, 0 ≤ x) {Pk : List Int} {who : Int} (ht : fE (bU ah Pk) (bC ah O P who)) :
 (∃ s, dF (bU ah Pk) O (nth P) (bC ah O P who) (dK 0 (bC ah O P who) (dO (bU ah Pk) O (nth P) ah.length (bC ah O P who))) 0 s) ∧
 ∃ s, dF (bU ah Pk) O (nth P) (bC ah O P who) (dK 1 (bC ah O P who) (dO (bU ah Pk) O (nth P) ah.length (bC ah O P who))) 1 s :=
 winZ_holds (sZ (jL hA)).eu (fun v hv => (tK hA (by rw [dQ] at hv; exact hv)).1) (fun v hv => hp _ (jo (by rw [dQ] at hv; have := hA.2.2.1; omega))) ah.length _ (fun v hv => by rw [dQ]; exact Gl hv) (by rw [dQ]; exact sV _ _) ht
theorem good_holds (hA : lJ O ah) (hl : P.length = O.length) (hp : ∀ x ∈ P, 0 ≤ x) {Pk : List Int} {who : Int} (hw : who = 0 ∨ who = 1) (l9 : ∀ v, bC ah O P who v = true → nth O v ≠ who → nth Pk v < 0) (h : wQ ah O P Pk who) : fC ah O P Pk (bC ah O P who) who = true := by
 have ht := aax hA hl hp hw l9 h
 obtain ⟨h0, h1⟩ := win_holds hA hl hp ht
 obtain ⟨s, hs⟩ := h
 unfold fC
 rw [Bool.not_eq_true', FZ]
 intro v hv
 cases hR : bC ah O P who v with
 | false => rfl
 | true =>
   rw [Bool.true_and]
   obtain ⟨b, hb⟩ : ∃ b, dO (bU ah Pk) O (nth P) ah.length (bC ah O P who) v = b := ⟨_, rfl⟩
   rw [hb]
   have hO : ∀ v, v < (bU ah Pk).length → nth O v = 0 ∨ nth O v = 1 := fun v hv => (tK hA (by rw [dQ] at hv; exact hv)).1
   rcases hw with rfl | rfl
   · cases b with
     | true => rfl
     | false =>
       exfalso
       obtain ⟨s1, h1⟩ := h1
       exact ND (sZ (jL hA)).eu hs h1 (fun v hv => by have := hO v hv; omega) (by decide) v (by rw [dQ]; exact hv) ⟨hR, by unfold dK; rw [hR, hb]; rfl⟩
   · cases b with
     | false => rfl
     | true =>
       exfalso
       obtain ⟨s0, h0⟩ := h0
       exact ND (sZ (jL hA)).eu hs h0 (fun v hv => by have := hO v hv; omega) (by decide) v (by rw [dQ]; exact hv) ⟨hR, by unfold dK; rw [hR, hb]; rfl⟩
theorem agd (hA : lJ O ah) (hl : P.length = O.length) (hp : ∀ x ∈ P, 0 ≤ x) {Pk : List Int} {who : Int} (hw : who = 0 ∨ who = 1) (ht : fE (bU ah Pk) (bC ah O P who)) (h : fC ah O P Pk (bC ah O P who) who = true) : wQ ah O P Pk who := by
 obtain ⟨h0, h1⟩ := win_holds hA hl hp ht
 unfold fC at h
 rw [Bool.not_eq_true', FZ] at h
 have he : ∀ v, dK who (bC ah O P who) (dO (bU ah Pk) O (nth P) ah.length (bC ah O P who)) v = bC ah O P who v := fun v => by
  unfold dK
  cases hR : bC ah O P who v with
  | false => rfl
  | true =>
    have h2 := h v (Gl hR)
    rw [hR, Bool.true_and] at h2
    rw [Bool.true_and]
    cases hb : dO (bU ah Pk) O (nth P) ah.length (bC ah O P who) v <;> rw [hb] at h2 <;> cases hd : decide (who = 0) <;> rw [hd] at h2 <;> first | rfl | cases h2
 rcases hw with rfl | rfl
 · obtain ⟨s, hs⟩ := h0
   exact ⟨s, hs.congr he⟩
 · obtain ⟨s, hs⟩ := h1
   exact ⟨s, hs.congr he⟩
theorem agf {Pk rP : List Int} {who : Int} (h : wQ ah O P Pk who) (he : ∀ v, bC ah O P who v = true → nth rP v = nth Pk v) : wQ ah O P rP who := by
 obtain ⟨s, hs⟩ := h
 have hrow : ∀ v, v < ah.length → bC ah O P who v = true → row (bU ah rP) v = row (bU ah Pk) v := fun v hv hR => by
  rw [jM hv, jM hv]
  refine List.filter_congr fun x _ => ?_
  unfold jX
  rw [he v hR]
 refine ⟨s, hs.sub, fun v hv hR ho => ?_, fun v hv hR ho x hx hI => hI, fun c L hl i hm => hs.wins c L ⟨hl.pos, hl.per, fun j => ?_⟩ i hm⟩
 · rw [dQ] at hv
   rw [hrow v hv hR]
   exact hs.own v (by rw [dQ]; exact hv) hR ho
 · obtain ⟨h1, h2, h3, h4, h5⟩ := hl.step j
   rw [dQ] at h2
   rw [hrow _ h2 h1] at h3
   exact ⟨h1, by rw [dQ]; exact h2, h3, h4, h5⟩
theorem aay (hA : lJ O ah) (hl : P.length = O.length) (hp : ∀ x ∈ P, 0 ≤ x) {Pk : List Int} {who : Int} (hw : who = 0 ∨ who = 1) (hlen : Pk.length = ah.length) (l9 : ∀ v, bC ah O P who v = true → nth O v ≠ who → nth Pk v < 0) (h : wQ ah O P Pk who) {k : Nat} (hk : k < ah.length) (hR : bC ah O P who k = true) (ho : nth O k = who) (hn : nth Pk k < 0) :
 (gu (fun u => fC ah O P (Pk.set k u) (bC ah O P who) who) (bC ah O P who) (row ah k)) ∈ row ah k ∧
 bC ah O P who (gu (fun u => fC ah O P (Pk.set k u) (bC ah O P who) who) (bC ah O P who) (row ah k)).toNat = true ∧
 wQ ah O P (Pk.set k (gu (fun u => fC ah O P (Pk.set k u) (bC ah O P who) who) (bC ah O P who) (row ah k))) who := by
 have hkl : k < Pk.length := by omega
 have aaz : ∀ (u : Int) v, bC ah O P who v = true → nth O v ≠ who → nth (Pk.set k u) v < 0 := fun u v hv hv2 => by
  rw [nP hkl, if_neg (fun e => hv2 (by rw [e]; exact ho))]
  exact l9 v hv hv2
 have hrow : ∀ (u : Int) v, v < ah.length → v ≠ k → row (bU ah (Pk.set k u)) v = row (bU ah Pk) v := fun u v hv hne => by
  rw [jM hv, jM hv]
  refine List.filter_congr fun x _ => ?_
  unfold jX
  rw [nP hkl, if_neg hne]
 have aaA : ∀ u : Int, u ∈ row ah k → u ∈ row (bU ah (Pk.set k u)) k := fun u hu => by
  rw [jM hk, List.mem_filter]
  refine ⟨hu, ?_⟩
  unfold jX
  rw [nP hkl, if_pos rfl, decide_eq_true (rfl : u = u), Bool.or_true]
 have agh : ∀ (u x : Int), 0 ≤ u → x ∈ row (bU ah (Pk.set k u)) k → x = u := fun u x hu hx => by
  rw [jM hk, List.mem_filter] at hx
  have h2 := hx.2
  unfold jX at h2
  rw [nP hkl, if_pos rfl, decide_eq_false (by omega), Bool.false_or, decide_eq_true_eq] at h2
  exact h2.symm
 obtain ⟨s, hs⟩ := h
 have hsk := hs.own k (by rw [dQ]; exact hk) hR ho
 have aaB : (s k : Int) ∈ row ah k := by
  have h1 := hsk.1
  rw [jM hk, List.mem_filter] at h1
  exact h1.1
 have hg1 : wQ ah O P (Pk.set k (s k : Int)) who := by
  refine ⟨s, hs.sub, fun v hv hRv hov => ?_, fun v hv hRv hov x hx hI => hI, fun c L hlp i hm => hs.wins c L ⟨hlp.pos, hlp.per, fun j => ?_⟩ i hm⟩
  · rw [dQ] at hv
    by_cases e : v = k
    · subst e; exact ⟨aaA _ aaB, hsk.2⟩
    · rw [hrow _ v hv e]; exact hs.own v (by rw [dQ]; exact hv) hRv hov
  · obtain ⟨h1, h2, h3, h4, h5⟩ := hlp.step j
    rw [dQ] at h2
    refine ⟨h1, by rw [dQ]; exact h2, ?_, h4, h5⟩
    by_cases e : c j = k
    · rw [e]
      rw [e] at h3
      have h6 := agh _ _ (by omega) h3
      rw [h6]
      exact hsk.1
    · rw [hrow _ _ h2 e] at h3; exact h3
 have hh := good_holds hA hl hp hw (aaz _) hg1
 have hpz := aav (hold := fun u => fC ah O P (Pk.set k u) (bC ah O P who) who) (I := bC ah O P who) (us := row ah k) ⟨_, aaB, by rw [Int.toNat_natCast]; exact hsk.2, hh⟩
 obtain ⟨u, hu⟩ : ∃ u, gu (fun u => fC ah O P (Pk.set k u) (bC ah O P who) who) (bC ah O P who) (row ah k) = u := ⟨_, rfl⟩
 rw [hu] at hpz ⊢
 refine ⟨hpz.1, hpz.2.1, agd hA hl hp hw (aaw hA hl hp hw (aaz u) fun v hv hRv hov => ?_) hpz.2.2⟩
 by_cases e : v = k
 · subst e; exact ⟨u, aaA _ hpz.1, hpz.2.1⟩
 · rw [hrow _ v hv e]
   have h1 := hs.own v (by rw [dQ]; exact hv) hRv hov
   exact ⟨_, h1.1, by rw [Int.toNat_natCast]; exact h1.2⟩
end
end
section
open Go.RowKit
section
variable {ah : List (List Int)} {O P : List Int}
noncomputable def NG (ah : List (List Int)) (O P : List Int) : List Int := bD ah O P (List.replicate ah.length (-1)) ah.length
end
end
end Go.Proofs.YtglbkbiphcgidaaDoor
namespace Go.Proofs.YtglbkbiphcgidaaDoor
section
open Go.RowKit
def qU (f : Nat → Bool) : Nat → Nat
 | 0 => 0
 | k + 1 => qU f k + (if f k = true then 2 ^ k else 0)
theorem Jr (f : Nat → Bool) : ∀ k, qU f k < 2 ^ k
 | 0 => by simp [qU]
 | k + 1 => by
   have ih := Jr f k
   rw [qU, Nat.pow_succ]
   split <;> omega
theorem Dt (f : Nat → Bool) : ∀ k i, (qU f k).testBit i = (decide (i < k) && f i)
 | 0, i => by simp [qU]
 | k + 1, i => by
   have ih := Dt f k i
   have hl := Jr f k
   by_cases h : f k = true
   · rw [qU, if_pos h]
     have e := Nat.testBit_two_pow_mul_add 1 hl i
     rw [Nat.mul_one, Nat.add_comm] at e
     rw [e]
     by_cases hi : i < k
     · rw [if_pos hi, ih]; simp [hi]; intro; omega
     · rw [if_neg hi]
       by_cases e2 : i = k
       · subst e2; simp [h]
       · have : i - k = (i - k - 1) + 1 := by omega
         rw [this, Nat.testBit_succ]
         simp
         intro; omega
   · rw [qU, if_neg h, Nat.add_zero, ih]
     by_cases hi : i < k
     · have : i < k + 1 := by omega
       simp [hi, this]
     · by_cases e2 : i = k
       · subst e2; simp at h; simp [h]
       · have h1 : ¬ i < k + 1 := by omega
         simp [hi, h1]
theorem Ud {f g : Nat → Bool} {k : Nat} (h : ∀ i, i < k → f i = g i) : qU f k = qU g k := by
 refine Nat.eq_of_testBit_eq fun i => ?_
 rw [Dt, Dt]
 by_cases hi : i < k
 · simp [hi, h i hi]
 · simp [hi]
theorem aaC {f : Nat → Bool} {k : Nat} : qU f k = 0 ↔ ∀ i, i < k → f i = false := by
 constructor
 · intro h i hi
   have := Dt f k i
   rw [h] at this
   simpa [hi] using this.symm
 · intro h
   refine Nat.eq_of_testBit_eq fun i => ?_
   rw [Dt, Nat.zero_testBit]
   by_cases hi : i < k
   · simp [h i hi]
   · simp [hi]
def aj (I : Nat → Bool) (i : Nat) : Nat := qU (fun b => I (64 * i + b)) 64
theorem yt (I : Nat → Bool) (i : Nat) : aj I i < 18446744073709551616 := Jr _ 64
theorem qV (I : Nat → Bool) (i b : Nat) : (aj I i).testBit b = (decide (b < 64) && I (64 * i + b)) := Dt _ _ _
theorem jG (i : Nat) : aj (fun _ => false) i = 0 := aaC.2 fun _ _ => rfl
def aO (I J : Nat → Bool) : Nat → Bool := fun v => I v || J v
def dR (I J : Nat → Bool) : Nat → Bool := fun v => I v && J v
def aS (x : Nat) : Nat → Bool := fun v => decide (v = x)
theorem agi (I J : Nat → Bool) (i : Nat) : aj I i ||| aj J i = aj (aO I J) i := by
 refine Nat.eq_of_testBit_eq fun b => ?_
 rw [Nat.testBit_or, qV, qV, qV, aO]
 cases decide (b < 64) <;> simp
theorem agj (I J : Nat → Bool) (i : Nat) : aj I i &&& aj J i = aj (dR I J) i := by
 refine Nat.eq_of_testBit_eq fun b => ?_
 rw [Nat.testBit_and, qV, qV, qV, dR]
 cases decide (b < 64) <;> simp
theorem agk (I J : Nat → Bool) (i : Nat) : aj I i &&& (18446744073709551615 - aj J i) = aj (aQ I J) i := by
 refine Nat.eq_of_testBit_eq fun b => ?_
 have hl : aj J i < 2 ^ 64 := Jr _ _
 have e : 18446744073709551615 - aj J i = 2 ^ 64 - (aj J i + 1) := by have := yt J i; omega
 rw [Nat.testBit_and, e, Nat.testBit_two_pow_sub_succ hl, qV, qV, qV, aQ]
 cases decide (b < 64) <;> simp
theorem agl (I : Nat → Bool) (v : Nat) : aj I (v / 64) ||| 2 ^ (v % 64) = aj (aO I (aS v)) (v / 64) := by
 refine Nat.eq_of_testBit_eq fun b => ?_
 rw [Nat.testBit_or, qV, qV, Nat.testBit_two_pow, aO, aS]
 by_cases hb : b < 64
 · have : (v % 64 = b) ↔ (64 * (v / 64) + b = v) := by omega
   simp [hb, this]
 · have : v % 64 ≠ b := by omega
   simp [hb, this]
theorem agm (I : Nat → Bool) {v i : Nat} (h : i ≠ v / 64) : aj (aO I (aS v)) i = aj I i := Ud fun b hb => by
 have : 64 * i + b ≠ v := by omega
 simp [aO, aS, this]
theorem agn (I : Nat → Bool) (v : Nat) : aj I (v / 64) / 2 ^ (v % 64) % 2 = if I v = true then 1 else 0 := by
 have h := qV I (v / 64) (v % 64)
 rw [Nat.testBit_eq_decide_div_mod_eq] at h
 have e : 64 * (v / 64) + v % 64 = v := by omega
 have hl : v % 64 < 64 := by omega
 rw [e] at h
 cases hI : I v with
 | true => rw [hI] at h; simp [hl] at h; rw [if_pos rfl]; exact h
 | false => rw [hI] at h; simp at h; simp; omega
theorem ago {I J : Nat → Bool} : (∀ i, i < 4 → aj I i = aj J i) ↔ ∀ v, v < 256 → I v = J v := by
 constructor
 · intro h v hv
   have h1 := congrArg (fun x => x.testBit (v % 64)) (h (v / 64) (by omega))
   simp only [qV] at h1
   have e : 64 * (v / 64) + v % 64 = v := by omega
   have hl : v % 64 < 64 := by omega
   rw [e] at h1
   simpa [hl] using h1
 · intro h i hi
   exact Ud fun b hb => h _ (by omega)
def jy (I : Nat → Bool) (i k : Nat) : Nat := qU (fun b => I (64 * i + b) && decide (k ≤ b)) 64
theorem agp (I : Nat → Bool) (i : Nat) : jy I i 0 = aj I i := Ud fun b _ => by simp
theorem aaD (I : Nat → Bool) (i k : Nat) : jy I i k < 18446744073709551616 := Jr _ 64
theorem NH (I : Nat → Bool) (i k b : Nat) : (jy I i k).testBit b = (decide (b < 64) && (I (64 * i + b) && decide (k ≤ b))) := Dt _ _ _
theorem agq {I : Nat → Bool} {i k : Nat} : jy I i k = 0 ↔ ∀ b, b < 64 → k ≤ b → I (64 * i + b) = false := by
 rw [jy, aaC]
 constructor
 · intro h b hb hk
   simpa [hk] using h b hb
 · intro h b hb
   by_cases hk : k ≤ b
   · simp [h b hb hk]
   · simp [hk]
theorem aaE {x k m : Nat} (h : x = 2 ^ k * (2 * m + 1)) : x.testBit k = true ∧ ∀ b, b < k → x.testBit b = false := by
 subst h
 rw [Nat.mul_comm]
 constructor
 · rw [Nat.testBit_mul_two_pow]; simp
 · intro b hb
   rw [Nat.testBit_mul_two_pow]; simp; omega
theorem agr {x k m : Nat} (h : x = 2 ^ k * (2 * m + 1)) (b : Nat) : (x &&& (x - 1)).testBit b = (x.testBit b && decide (k < b)) := by
 have hp : 0 < 2 ^ k := Nat.two_pow_pos k
 have e1 : x - 1 = 2 ^ k * (2 * m) + (2 ^ k - 1) := by
  rw [h, Nat.mul_add, Nat.mul_one]; omega
 have e2 : x = 2 ^ k * (2 * m + 1) + 0 := by rw [h]; rfl
 rw [Nat.testBit_and, e1, Nat.testBit_two_pow_mul_add _ (by omega)]
 by_cases hb : b < k
 · rw [(aaE h).2 b hb]; simp
 · rw [if_neg hb]
   by_cases e : b = k
   · subst e; simp
   · have h1 : b - k = (b - k - 1) + 1 := by omega
     have hx : x.testBit b = (2 * m + 1).testBit (b - k) := by
      rw [e2, Nat.testBit_two_pow_mul_add _ hp, if_neg hb]
     rw [hx, h1, Nat.testBit_succ, Nat.testBit_succ]
     have d1 : (2 * m + 1) / 2 = m := by omega
     have d2 : 2 * m / 2 = m := by omega
     rw [d1, d2]
     have : k < b := by omega
     simp [this]
theorem ags {I : Nat → Bool} {i k : Nat} (h : jy I i k ≠ 0) : ∃ c, Lib.ctz 64 (jy I i k) = c ∧ c < 64 ∧ k ≤ c ∧ I (64 * i + c) = true ∧ (∀ b, k ≤ b → b < c → I (64 * i + b) = false) ∧
 jy I i k &&& (jy I i k - 1) = jy I i (c + 1) := by
 obtain ⟨m, hm, hc⟩ := Lib.ctzFrom_spec 64 (jy I i k) (by omega) (aaD I i k)
 have e : Lib.ctz 64 (jy I i k) = Lib.ctzFrom 64 (jy I i k) := by unfold Lib.ctz; rw [if_neg h]
 refine ⟨_, e, hc, ?_⟩
 obtain ⟨c, hcc⟩ : ∃ c, c = Lib.ctzFrom 64 (jy I i k) := ⟨_, rfl⟩
 rw [← hcc] at hm hc ⊢
 have hb := aaE hm
 have h1 := hb.1
 rw [NH] at h1
 simp at h1
 refine ⟨h1.2.2, h1.2.1, fun b hkb hbc => ?_, ?_⟩
 · have h2 := hb.2 b hbc
   rw [NH] at h2
   have hb64 : b < 64 := by omega
   simpa [hb64, hkb] using h2
 · refine Nat.eq_of_testBit_eq fun b => ?_
   rw [agr hm, NH, NH]
   by_cases h3 : c < b
   · have h4 : k ≤ b := by omega
     have h5 : c + 1 ≤ b := by omega
     simp [h3, h4, h5]
   · have h5 : ¬ c + 1 ≤ b := by omega
     simp [h3, h5]
theorem Ue {I : Nat → Bool} {u : Nat} : ∀ {v : Nat}, u ≤ v → (∀ x, u ≤ x → x < v → I x = false) → aU I v = aU I u
 | 0, h, _ => by have : u = 0 := by omega
                 rw [this]
 | v + 1, h, hn => by
   by_cases e : u = v + 1
   · rw [e]
   · rw [aU, hn v (by omega) (by omega)]
     simp
     exact Ue (by omega) fun x h1 h2 => hn x h1 (by omega)
end
end Go.Proofs.YtglbkbiphcgidaaDoor
namespace Go.Proofs.YtglbkbiphcgidaaDoor
section
open Go.RowKit
abbrev aW (I : Nat → Bool) : Value := .agg #[.int .u64 (aj I 0), .int .u64 (aj I 1), .int .u64 (aj I 2), .int .u64 (aj I 3)]
def aH (w : World) (g : Nat) (I : Nat → Bool) : Prop := w.heap[g]? = some (.cells #[.int .u64 (aj I 0), .int .u64 (aj I 1), .int .u64 (aj I 2), .int .u64 (aj I 3)] 69 (0, 0))
section
variable {w w' : World} {g : Nat} {I J : Nat → Bool}
theorem aH.lt (h : aH w g I) : g < w.heap.size := (Array.getElem?_eq_some_iff.1 h).1
theorem aH.below (h : aH w g I) (hb : Below w.heap.size w w') : aH w' g I := (hb.block g h.lt).trans h
theorem aH.only {S : Nat → Prop} (h : aH w g I) (hk : Only S w w') (hs : ¬ S g) : aH w' g I := (hk.block g h.lt hs).trans h
theorem aH.new (w : World) (I : Nat → Bool) : aH (w.alloc (.cells #[.int .u64 (aj I 0), .int .u64 (aj I 1), .int .u64 (aj I 2), .int .u64 (aj I 3)] 69)) w.heap.size I := heap_alloc_new w _
theorem aH.c0 (h : aH w g I) : w.cell? ⟨g, 0, none⟩ = some (.int .u64 (aj I 0)) := by unfold aH at h; simp [World.cell?, h]
theorem aH.c1 (h : aH w g I) : w.cell? ⟨g, 1, none⟩ = some (.int .u64 (aj I 1)) := by unfold aH at h; simp [World.cell?, h]
theorem aH.c2 (h : aH w g I) : w.cell? ⟨g, 2, none⟩ = some (.int .u64 (aj I 2)) := by unfold aH at h; simp [World.cell?, h]
theorem aH.c3 (h : aH w g I) : w.cell? ⟨g, 3, none⟩ = some (.int .u64 (aj I 3)) := by unfold aH at h; simp [World.cell?, h]
theorem aH.frozen (h : aH w g I) (k : Nat) : w.frozen? ⟨g, k, none⟩ = false := by unfold aH at h; simp [World.frozen?, h]
theorem aH.cell (h : aH w g I) {k : Nat} (hk : k < 4) : w.cell? ⟨g, k, none⟩ = some (.int .u64 (aj I k)) := by
 have : k = 0 ∨ k = 1 ∨ k = 2 ∨ k = 3 := by omega
 rcases this with rfl | rfl | rfl | rfl
 · exact h.c0
 · exact h.c1
 · exact h.c2
 · exact h.c3
end
theorem agt (I J : Nat → Bool) (i : Nat) : bits .or .u64 (aj I i : Int) (aj J i : Int) = (aj (aO I J) i : Int) := by rw [u64_or_nat _ _ (yt _ _) (yt _ _), agi]
theorem agu (I J : Nat → Bool) (i : Nat) : bits .and .u64 (aj I i : Int) (aj J i : Int) = (aj (dR I J) i : Int) := by rw [u64_and_nat _ _ (yt _ _) (yt _ _), agj]
theorem agv (I J : Nat → Bool) (i : Nat) : bits .andNot .u64 (aj I i : Int) (aj J i : Int) = (aj (aQ I J) i : Int) := by rw [u64_andNot_nat _ _ (yt _ _) (yt _ _), agk]
theorem kS {S : Nat → Prop} {a w : World} (h : Only S a w) : Only S a w.drew := ⟨h.os, h.tape, h.output, h.size, h.block⟩
def jH (w : World) (g k : Nat) (I K : Nat → Bool) : Prop := w.rowIs g 69 4 (fun j => .int .u64 (if j < k then aj K j else aj I j))
theorem jH.start {w : World} {g : Nat} {I K : Nat → Bool} (h : aH w g I) : jH w g 0 I K := ⟨_, h, rfl, fun j hj => by
 have : j = 0 ∨ j = 1 ∨ j = 2 ∨ j = 3 := by omega
 rcases this with rfl | rfl | rfl | rfl <;> simp⟩
theorem jH.done {w : World} {g : Nat} {I K : Nat → Bool} (h : jH w g 4 I K) : aH w g K := by
 obtain ⟨c, hc, hs, hi⟩ := h
 have e : c = #[.int .u64 (aj K 0), .int .u64 (aj K 1), .int .u64 (aj K 2), .int .u64 (aj K 3)] := by
  apply Array.ext
  · simpa using hs
  · intro j h1 h2
    have h3 := hi j (by omega)
    have : j = 0 ∨ j = 1 ∨ j = 2 ∨ j = 3 := by omega
    rw [Array.getElem?_eq_getElem h1] at h3
    rcases this with rfl | rfl | rfl | rfl <;> simpa using h3
 rw [e] at hc
 exact hc
theorem jH.cell {w : World} {g k : Nat} {I K : Nat → Bool} (h : jH w g k I K) (hk : k < 4) : w.cell? ⟨g, k, none⟩ = some (.int .u64 (aj I k)) := by
 have := World.rowIs.cell (i := k) h hk
 simpa using this
theorem jH.set {w : World} {g k : Nat} {I K : Nat → Bool} (h : jH w g k I K) : jH (w.setCell ⟨g, k, none⟩ (.int .u64 (aj K k))) g (k + 1) I K := by
 refine World.rowIs.congr (World.rowIs.set h k _) fun i hi => ?_
 by_cases e : i = k
 · subst e; simp
 · by_cases h1 : i < k
   · have : i < k + 1 := by omega
     simp [e, h1, this]
   · have : ¬ i < k + 1 := by omega
     simp [e, h1, this]
theorem jH.frozen {w : World} {g k : Nat} {I K : Nat → Bool} (h : jH w g k I K) (j : Nat) : w.frozen? ⟨g, j, none⟩ = false := World.rowIs.frozen h j
set_option maxRecDepth 100000 in
set_option maxHeartbeats 4000000 in
theorem yu {w : World} (I J : Nat → Bool) :
 Calls Tryd.prog 109 #[aW I, aW J] w fun e w' => e = .returned (aW (aO I J)) ∧ Below w.heap.size w w' := by
 obtain ⟨K, hK⟩ : ∃ K, K = aO I J := ⟨_, rfl⟩
 have HE : Hid (∀ i, bits .or .u64 (aj I i : Int) (aj J i : Int) = (aj K i : Int)) := fun i => by rw [hK]; exact agt I J i
 rw [← hK]
 clear hK
 go_enter Tryd.func109, Tryd.ntmps109
 go_wp2
 obtain ⟨w1, hw1⟩ : ∃ y, y = ((w.alloc (.cells #[.int .u64 (aj I 0), .int .u64 (aj I 1), .int .u64 (aj I 2), .int .u64 (aj I 3)] 69)).alloc (.cells #[.int .u64 (aj J 0), .int .u64 (aj J 1), .int .u64 (aj J 2), .int .u64 (aj J 3)] 69)).alloc (.cells #[.int .u64 0, .int .u64 0, .int .u64 0, .int .u64 0] 69) := ⟨_, rfl⟩
 rw [← hw1]
 have HB : Hid (Below w.heap.size w w1) := by rw [hw1]; exact ((((Below.refl _ _).alloc (Nat.le_refl _) _).alloc (by simp) _).alloc (by simp; omega) _)
 have HI : Hid (jH w1 w.heap.size 0 I K) := by
  rw [hw1]
  exact jH.start (((aH.new w I).below (aA _ _)).below (aA _ _))
 have HJ : Hid (aH w1 (w.heap.size + 1) J) := by
  rw [hw1]
  have h := (aH.new (w.alloc (.cells #[.int .u64 (aj I 0), .int .u64 (aj I 1), .int .u64 (aj I 2), .int .u64 (aj I 3)] 69)) J).below (aA _ (.cells #[.int .u64 0, .int .u64 0, .int .u64 0, .int .u64 0] 69))
  rw [World.size_alloc] at h
  exact h
 have HZ : Hid (w1.heap[w.heap.size + 1 + 1]? = some (.cells #[.int .u64 0, .int .u64 0, .int .u64 0, .int .u64 0] 69 (0, 0))) := by
  rw [hw1]
  have h := heap_alloc_new ((w.alloc (.cells #[.int .u64 (aj I 0), .int .u64 (aj I 1), .int .u64 (aj I 2), .int .u64 (aj I 3)] 69)).alloc (.cells #[.int .u64 (aj J 0), .int .u64 (aj J 1), .int .u64 (aj J 2), .int .u64 (aj J 3)] 69)) (.cells #[.int .u64 0, .int .u64 0, .int .u64 0, .int .u64 0] 69)
  rw [World.size_alloc, World.size_alloc] at h
  exact h
 clear hw1
 go_loopw [6] (fun iv wr => ∃ k : Nat, k ≤ 4 ∧ iv = .int .i64 k ∧ Hid (jH wr w.heap.size k I K) ∧ Hid (Only (fun b => b = w.heap.size) w1 wr)) (fun iv _ => 4 - (intOf iv).toNat)
 case atStart => exact ⟨0, by omega, rfl, HI, Only.refl _ _⟩
 case round =>
  obtain ⟨k, hk, rfl, HM, HO⟩ := hrel
  by_cases hlt : k < 4
  · have hi1 : (k : Int) < 4 := by omega
    have hk0 : (0 : Int) ≤ (k : Int) := by omega
    have c1 := HM.out.cell hlt
    have f1 := HM.out.frozen k
    have c2 := (HJ.out.only HO.out (by omega)).cell hlt
    have he := HE.out k
    go_wp2
    go_region_law (fail)
    all_goals (
     go_wp2
     go_roundw
     case rel =>
      refine ⟨k + 1, by omega, by go_num, HM.out.set, ?_⟩
      exact kS (HO.out.setCell (p := ⟨w.heap.size, k, none⟩) rfl _)
     case measure => simp [intOf]; omega)
  · have hi1 : ¬ (k : Int) < 4 := by omega
    obtain rfl : k = 4 := by omega
    have c0 := HM.out.done.c0
    have c1 := HM.out.done.c1
    have c2 := HM.out.done.c2
    have c3 := HM.out.done.c3
    have HZ2 := Lib.hid ((HO.out.block _ (Array.getElem?_eq_some_iff.1 HZ.out).1 (by omega)).trans HZ.out)
    have z0 : wr.frozen? ⟨w.heap.size + 1 + 1, 0, none⟩ = false := by simp [World.frozen?, HZ2.out]
    have z1 : wr.frozen? ⟨w.heap.size + 1 + 1, 1, none⟩ = false := by simp [World.frozen?, HZ2.out]
    have z2 : wr.frozen? ⟨w.heap.size + 1 + 1, 2, none⟩ = false := by simp [World.frozen?, HZ2.out]
    have z3 : wr.frozen? ⟨w.heap.size + 1 + 1, 3, none⟩ = false := by simp [World.frozen?, HZ2.out]
    have y0 : wr.cell? ⟨w.heap.size + 1 + 1, 0, none⟩ = some (.int .u64 0) := by simp [World.cell?, HZ2.out]
    have y1 : wr.cell? ⟨w.heap.size + 1 + 1, 1, none⟩ = some (.int .u64 0) := by simp [World.cell?, HZ2.out]
    have y2 : wr.cell? ⟨w.heap.size + 1 + 1, 2, none⟩ = some (.int .u64 0) := by simp [World.cell?, HZ2.out]
    have y3 : wr.cell? ⟨w.heap.size + 1 + 1, 3, none⟩ = some (.int .u64 0) := by simp [World.cell?, HZ2.out]
    go_wp2
    refine bodyPost_ret (v := aW K) (by simp [results, Tryd.results109, go_sem, y0, y1, y2, y3]) rfl ⟨rfl, ?_⟩
    have hs := HB.out.size
    have hs2 := HO.out.size
    have hB2 := HB.out.trans ((HO.out.below (B := w.heap.size) (by omega) (fun b hb => by omega)))
    exact (((hB2.setCell (p := ⟨w.heap.size + 1 + 1, 0, none⟩) (by simp; omega) _).setCell (p := ⟨w.heap.size + 1 + 1, 1, none⟩) (by simp; omega) _).setCell (p := ⟨w.heap.size + 1 + 1, 2, none⟩) (by simp; omega) _).setCell (p := ⟨w.heap.size + 1 + 1, 3, none⟩) (by simp; omega) _
set_option maxRecDepth 100000 in
set_option maxHeartbeats 4000000 in
theorem yw {w : World} (I J : Nat → Bool) :
 Calls Tryd.prog 111 #[aW I, aW J] w fun e w' => e = .returned (aW (dR I J)) ∧ Below w.heap.size w w' := by
 obtain ⟨K, hK⟩ : ∃ K, K = dR I J := ⟨_, rfl⟩
 have HE : Hid (∀ i, bits .and .u64 (aj I i : Int) (aj J i : Int) = (aj K i : Int)) := fun i => by rw [hK]; exact agu I J i
 rw [← hK]
 clear hK
 go_enter Tryd.func111, Tryd.ntmps111
 go_wp2
 obtain ⟨w1, hw1⟩ : ∃ y, y = ((w.alloc (.cells #[.int .u64 (aj I 0), .int .u64 (aj I 1), .int .u64 (aj I 2), .int .u64 (aj I 3)] 69)).alloc (.cells #[.int .u64 (aj J 0), .int .u64 (aj J 1), .int .u64 (aj J 2), .int .u64 (aj J 3)] 69)).alloc (.cells #[.int .u64 0, .int .u64 0, .int .u64 0, .int .u64 0] 69) := ⟨_, rfl⟩
 rw [← hw1]
 have HB : Hid (Below w.heap.size w w1) := by rw [hw1]; exact ((((Below.refl _ _).alloc (Nat.le_refl _) _).alloc (by simp) _).alloc (by simp; omega) _)
 have HI : Hid (jH w1 w.heap.size 0 I K) := by
  rw [hw1]
  exact jH.start (((aH.new w I).below (aA _ _)).below (aA _ _))
 have HJ : Hid (aH w1 (w.heap.size + 1) J) := by
  rw [hw1]
  have h := (aH.new (w.alloc (.cells #[.int .u64 (aj I 0), .int .u64 (aj I 1), .int .u64 (aj I 2), .int .u64 (aj I 3)] 69)) J).below (aA _ (.cells #[.int .u64 0, .int .u64 0, .int .u64 0, .int .u64 0] 69))
  rw [World.size_alloc] at h
  exact h
 have HZ : Hid (w1.heap[w.heap.size + 1 + 1]? = some (.cells #[.int .u64 0, .int .u64 0, .int .u64 0, .int .u64 0] 69 (0, 0))) := by
  rw [hw1]
  have h := heap_alloc_new ((w.alloc (.cells #[.int .u64 (aj I 0), .int .u64 (aj I 1), .int .u64 (aj I 2), .int .u64 (aj I 3)] 69)).alloc (.cells #[.int .u64 (aj J 0), .int .u64 (aj J 1), .int .u64 (aj J 2), .int .u64 (aj J 3)] 69)) (.cells #[.int .u64 0, .int .u64 0, .int .u64 0, .int .u64 0] 69)
  rw [World.size_alloc, World.size_alloc] at h
  exact h
 clear hw1
 go_loopw [6] (fun iv wr => ∃ k : Nat, k ≤ 4 ∧ iv = .int .i64 k ∧ Hid (jH wr w.heap.size k I K) ∧ Hid (Only (fun b => b = w.heap.size) w1 wr)) (fun iv _ => 4 - (intOf iv).toNat)
 case atStart => exact ⟨0, by omega, rfl, HI, Only.refl _ _⟩
 case round =>
  obtain ⟨k, hk, rfl, HM, HO⟩ := hrel
  by_cases hlt : k < 4
  · have hi1 : (k : Int) < 4 := by omega
    have hk0 : (0 : Int) ≤ (k : Int) := by omega
    have c1 := HM.out.cell hlt
    have f1 := HM.out.frozen k
    have c2 := (HJ.out.only HO.out (by omega)).cell hlt
    have he := HE.out k
    go_wp2
    go_region_law (fail)
    all_goals (
     go_wp2
     go_roundw
     case rel =>
      refine ⟨k + 1, by omega, by go_num, HM.out.set, ?_⟩
      exact kS (HO.out.setCell (p := ⟨w.heap.size, k, none⟩) rfl _)
     case measure => simp [intOf]; omega)
  · have hi1 : ¬ (k : Int) < 4 := by omega
    obtain rfl : k = 4 := by omega
    have c0 := HM.out.done.c0
    have c1 := HM.out.done.c1
    have c2 := HM.out.done.c2
    have c3 := HM.out.done.c3
    have HZ2 := Lib.hid ((HO.out.block _ (Array.getElem?_eq_some_iff.1 HZ.out).1 (by omega)).trans HZ.out)
    have z0 : wr.frozen? ⟨w.heap.size + 1 + 1, 0, none⟩ = false := by simp [World.frozen?, HZ2.out]
    have z1 : wr.frozen? ⟨w.heap.size + 1 + 1, 1, none⟩ = false := by simp [World.frozen?, HZ2.out]
    have z2 : wr.frozen? ⟨w.heap.size + 1 + 1, 2, none⟩ = false := by simp [World.frozen?, HZ2.out]
    have z3 : wr.frozen? ⟨w.heap.size + 1 + 1, 3, none⟩ = false := by simp [World.frozen?, HZ2.out]
    have y0 : wr.cell? ⟨w.heap.size + 1 + 1, 0, none⟩ = some (.int .u64 0) := by simp [World.cell?, HZ2.out]
    have y1 : wr.cell? ⟨w.heap.size + 1 + 1, 1, none⟩ = some (.int .u64 0) := by simp [World.cell?, HZ2.out]
    have y2 : wr.cell? ⟨w.heap.size + 1 + 1, 2, none⟩ = some (.int .u64 0) := by simp [World.cell?, HZ2.out]
    have y3 : wr.cell? ⟨w.heap.size + 1 + 1, 3, none⟩ = some (.int .u64 0) := by simp [World.cell?, HZ2.out]
    go_wp2
    refine bodyPost_ret (v := aW K) (by simp [results, Tryd.results111, go_sem, y0, y1, y2, y3]) rfl ⟨rfl, ?_⟩
    have hs := HB.out.size
    have hs2 := HO.out.size
    have hB2 := HB.out.trans ((HO.out.below (B := w.heap.size) (by omega) (fun b hb => by omega)))
    exact (((hB2.setCell (p := ⟨w.heap.size + 1 + 1, 0, none⟩) (by simp; omega) _).setCell (p := ⟨w.heap.size + 1 + 1, 1, none⟩) (by simp; omega) _).setCell (p := ⟨w.heap.size + 1 + 1, 2, none⟩) (by simp; omega) _).setCell (p := ⟨w.heap.size + 1 + 1, 3, none⟩) (by simp; omega) _
set_option maxRecDepth 100000 in
set_option maxHeartbeats 4000000 in
theorem mJ {w : World} (I J : Nat → Bool) :
 Calls Tryd.prog 133 #[aW I, aW J] w fun e w' => e = .returned (aW (aQ I J)) ∧ Below w.heap.size w w' := by
 obtain ⟨K, hK⟩ : ∃ K, K = aQ I J := ⟨_, rfl⟩
 have HE : Hid (∀ i, bits .andNot .u64 (aj I i : Int) (aj J i : Int) = (aj K i : Int)) := fun i => by rw [hK]; exact agv I J i
 rw [← hK]
 clear hK
 go_enter Tryd.func133, Tryd.ntmps133
 go_wp2
 obtain ⟨w1, hw1⟩ : ∃ y, y = ((w.alloc (.cells #[.int .u64 (aj I 0), .int .u64 (aj I 1), .int .u64 (aj I 2), .int .u64 (aj I 3)] 69)).alloc (.cells #[.int .u64 (aj J 0), .int .u64 (aj J 1), .int .u64 (aj J 2), .int .u64 (aj J 3)] 69)).alloc (.cells #[.int .u64 0, .int .u64 0, .int .u64 0, .int .u64 0] 69) := ⟨_, rfl⟩
 rw [← hw1]
 have HB : Hid (Below w.heap.size w w1) := by rw [hw1]; exact ((((Below.refl _ _).alloc (Nat.le_refl _) _).alloc (by simp) _).alloc (by simp; omega) _)
 have HI : Hid (jH w1 w.heap.size 0 I K) := by
  rw [hw1]
  exact jH.start (((aH.new w I).below (aA _ _)).below (aA _ _))
 have HJ : Hid (aH w1 (w.heap.size + 1) J) := by
  rw [hw1]
  have h := (aH.new (w.alloc (.cells #[.int .u64 (aj I 0), .int .u64 (aj I 1), .int .u64 (aj I 2), .int .u64 (aj I 3)] 69)) J).below (aA _ (.cells #[.int .u64 0, .int .u64 0, .int .u64 0, .int .u64 0] 69))
  rw [World.size_alloc] at h
  exact h
 have HZ : Hid (w1.heap[w.heap.size + 1 + 1]? = some (.cells #[.int .u64 0, .int .u64 0, .int .u64 0, .int .u64 0] 69 (0, 0))) := by
  rw [hw1]
  have h := heap_alloc_new ((w.alloc (.cells #[.int .u64 (aj I 0), .int .u64 (aj I 1), .int .u64 (aj I 2), .int .u64 (aj I 3)] 69)).alloc (.cells #[.int .u64 (aj J 0), .int .u64 (aj J 1), .int .u64 (aj J 2), .int .u64 (aj J 3)] 69)) (.cells #[.int .u64 0, .int .u64 0, .int .u64 0, .int .u64 0] 69)
  rw [World.size_alloc, World.size_alloc] at h
  exact h
 clear hw1
 go_loopw [6] (fun iv wr => ∃ k : Nat, k ≤ 4 ∧ iv = .int .i64 k ∧ Hid (jH wr w.heap.size k I K) ∧ Hid (Only (fun b => b = w.heap.size) w1 wr)) (fun iv _ => 4 - (intOf iv).toNat)
 case atStart => exact ⟨0, by omega, rfl, HI, Only.refl _ _⟩
 case round =>
  obtain ⟨k, hk, rfl, HM, HO⟩ := hrel
  by_cases hlt : k < 4
  · have hi1 : (k : Int) < 4 := by omega
    have hk0 : (0 : Int) ≤ (k : Int) := by omega
    have c1 := HM.out.cell hlt
    have f1 := HM.out.frozen k
    have c2 := (HJ.out.only HO.out (by omega)).cell hlt
    have he := HE.out k
    go_wp2
    go_region_law (fail)
    all_goals (
     go_wp2
     go_roundw
     case rel =>
      refine ⟨k + 1, by omega, by go_num, HM.out.set, ?_⟩
      exact kS (HO.out.setCell (p := ⟨w.heap.size, k, none⟩) rfl _)
     case measure => simp [intOf]; omega)
  · have hi1 : ¬ (k : Int) < 4 := by omega
    obtain rfl : k = 4 := by omega
    have c0 := HM.out.done.c0
    have c1 := HM.out.done.c1
    have c2 := HM.out.done.c2
    have c3 := HM.out.done.c3
    have HZ2 := Lib.hid ((HO.out.block _ (Array.getElem?_eq_some_iff.1 HZ.out).1 (by omega)).trans HZ.out)
    have z0 : wr.frozen? ⟨w.heap.size + 1 + 1, 0, none⟩ = false := by simp [World.frozen?, HZ2.out]
    have z1 : wr.frozen? ⟨w.heap.size + 1 + 1, 1, none⟩ = false := by simp [World.frozen?, HZ2.out]
    have z2 : wr.frozen? ⟨w.heap.size + 1 + 1, 2, none⟩ = false := by simp [World.frozen?, HZ2.out]
    have z3 : wr.frozen? ⟨w.heap.size + 1 + 1, 3, none⟩ = false := by simp [World.frozen?, HZ2.out]
    have y0 : wr.cell? ⟨w.heap.size + 1 + 1, 0, none⟩ = some (.int .u64 0) := by simp [World.cell?, HZ2.out]
    have y1 : wr.cell? ⟨w.heap.size + 1 + 1, 1, none⟩ = some (.int .u64 0) := by simp [World.cell?, HZ2.out]
    have y2 : wr.cell? ⟨w.heap.size + 1 + 1, 2, none⟩ = some (.int .u64 0) := by simp [World.cell?, HZ2.out]
    have y3 : wr.cell? ⟨w.heap.size + 1 + 1, 3, none⟩ = some (.int .u64 0) := by simp [World.cell?, HZ2.out]
    go_wp2
    refine bodyPost_ret (v := aW K) (by simp [results, Tryd.results133, go_sem, y0, y1, y2, y3]) rfl ⟨rfl, ?_⟩
    have hs := HB.out.size
    have hs2 := HO.out.size
    have hB2 := HB.out.trans ((HO.out.below (B := w.heap.size) (by omega) (fun b hb => by omega)))
    exact (((hB2.setCell (p := ⟨w.heap.size + 1 + 1, 0, none⟩) (by simp; omega) _).setCell (p := ⟨w.heap.size + 1 + 1, 1, none⟩) (by simp; omega) _).setCell (p := ⟨w.heap.size + 1 + 1, 2, none⟩) (by simp; omega) _).setCell (p := ⟨w.heap.size + 1 + 1, 3, none⟩) (by simp; omega) _
end
end Go.Proofs.YtglbkbiphcgidaaDoor
namespace Go.Proofs.YtglbkbiphcgidaaDoor
section
open Go.RowKit
abbrev aaF (a b c d : Int) : Value := .agg #[.int .u64 a, .int .u64 b, .int .u64 c, .int .u64 d]
def Js (a b c d a' b' c' d' : Int) : Bool := a == a' && (b == b' && (c == c' && d == d'))
theorem Aq (w : World) (xs : Array Value) (off : Nat) (v : Value) (hv : xs[off]? = some v) : (Go.part 67 xs off).run Tryd.prog w = .ok v w :=
 run_part_plain w (by kernel_rfl) hv
theorem agw (n : Nat) (w : World) (a b c d a' b' c' d' : Int) : (Op.equalIn (n + 1 + 1) 69 (aaF a b c d) (aaF a' b' c' d')).run Tryd.prog w = .ok (Js a b c d a' b' c' d') w := by
 obtain ⟨i, hi⟩ : ∃ i, Tryd.prog.info? 67 = some i := info_of_underlying Tryd.underlying67
 have hc : Tryd.prog.cellsOf 67 = 1 := by kernel_rfl
 rw [run_equalIn_array w (n + 1) _ _ (e := 67) (n := 4) (by kernel_rfl) hi, hc]
 have hr : List.range 4 = [0, 1, 2, 3] := rfl
 rw [hr]
 have p0 : ∀ a b c d : Value, (Go.part 67 #[a, b, c, d] 0).run Tryd.prog w = .ok a w := fun a b c d => Aq w _ _ _ rfl
 have p1 : ∀ a b c d : Value, (Go.part 67 #[a, b, c, d] 1).run Tryd.prog w = .ok b w := fun a b c d => Aq w _ _ _ rfl
 have p2 : ∀ a b c d : Value, (Go.part 67 #[a, b, c, d] 2).run Tryd.prog w = .ok c w := fun a b c d => Aq w _ _ _ rfl
 have p3 : ∀ a b c d : Value, (Go.part 67 #[a, b, c, d] 3).run Tryd.prog w = .ok d w := fun a b c d => Aq w _ _ _ rfl
 have e : ∀ x y : Int, (Op.equalIn (n + 1) 67 (.int .u64 x) (.int .u64 y)).run Tryd.prog w = .ok (x == y) w := fun x y => run_equalIn_int w n 67 .u64 .u64 x y Tryd.underlying67
 have ea := e a a'
 have eb := e b b'
 have ec := e c c'
 have ed := e d d'
 unfold Js
 clear e
 generalize (a == a') = ra at ea ⊢
 generalize (b == b') = rb at eb ⊢
 generalize (c == c') = rc at ec ⊢
 generalize (d == d') = rd at ed ⊢
 simp only [Op.eqItems, Sem.run_bind, Nat.mul_one, p0, ea, Result.andThen_ok]
 cases ra
 · simp
 simp only [Sem.run_bind, p1, eb, Result.andThen_ok, Bool.not_true, Bool.false_eq_true, if_false]
 cases rb
 · simp
 simp only [Sem.run_bind, p2, ec, Result.andThen_ok, Bool.not_true, Bool.false_eq_true, if_false]
 cases rc
 · simp
 simp only [Sem.run_bind, p3, ed, Result.andThen_ok, Bool.not_true, Bool.false_eq_true, if_false]
 cases rd <;> simp
theorem agx {I J : Nat → Bool} : Js (aj I 0) (aj I 1) (aj I 2) (aj I 3) (aj J 0) (aj J 1) (aj J 2) (aj J 3) = true ↔ ∀ v, v < 256 → I v = J v := by
 rw [← ago]
 unfold Js
 simp only [Bool.and_eq_true, beq_iff_eq, Int.natCast_inj]
 constructor
 · rintro ⟨h0, h1, h2, h3⟩ i hi
   have : i = 0 ∨ i = 1 ∨ i = 2 ∨ i = 3 := by omega
   rcases this with rfl | rfl | rfl | rfl <;> assumption
 · intro h
   exact ⟨h 0 (by omega), h 1 (by omega), h 2 (by omega), h 3 (by omega)⟩
def agy (I J : Nat → Bool) : Prop := ∀ v, v < 256 → I v = J v
noncomputable def nR (I J : Nat → Bool) : Bool := @decide (agy I J) (Classical.propDecidable _)
theorem Gm {I J : Nat → Bool} : nR I J = true ↔ ∀ v, v < 256 → I v = J v := by unfold nR; rw [@decide_eq_true_eq _ (Classical.propDecidable _)]; exact Iff.rfl
theorem agz (I J : Nat → Bool) : Js (aj I 0) (aj I 1) (aj I 2) (aj I 3) (aj J 0) (aj J 1) (aj J 2) (aj J 3) = nR I J := by
 rw [Bool.eq_iff_iff, agx, Gm]
theorem Uf (n : Nat) (w : World) (I J : Nat → Bool) : (Op.equalIn (n + 1 + 1) 69 (aW I) (aW J)).run Tryd.prog w = .ok (nR I J) w := by
 rw [← agz]; exact agw n w _ _ _ _ _ _ _ _
theorem Ug (w : World) (I J : Nat → Bool) : (Op.equalIn 10000 69 (aW I) (aW J)).run Tryd.prog w = .ok (nR I J) w := by
 have h := Uf 9998 w I J
 have hn : (9998 + 1 + 1 : Nat) = 10000 := rfl
 rw [hn] at h
 exact h
abbrev jc (I J : Nat → Bool) : Value := .agg #[.int .u64 (aj I 0), .int .u64 (aj I 1), .int .u64 (aj I 2), .int .u64 (aj I 3), .int .u64 (aj J 0), .int .u64 (aj J 1), .int .u64 (aj J 2), .int .u64 (aj J 3)]
theorem agA (w : World) (I J I' J' : Nat → Bool) : (Op.equalIn 10000 71 (jc I J) (jc I' J')).run Tryd.prog w = .ok (nR I I' && nR J J') w := by
 obtain ⟨i, hi⟩ : ∃ i, Tryd.prog.info? 69 = some i := info_of_underlying Tryd.underlying69
 have hc : Tryd.prog.cellsOf 69 = 4 := by kernel_rfl
 have hn1 : (10000 : Nat) = 9999 + 1 := rfl
 rw [hn1, run_equalIn_array w 9999 _ _ (e := 69) (n := 2) (by kernel_rfl) hi, hc]
 have hr : List.range 2 = [0, 1] := rfl
 rw [hr]
 have p0 : ∀ a b c d e f g h : Value, (Go.part 69 #[a, b, c, d, e, f, g, h] 0).run Tryd.prog w = .ok (.agg #[a, b, c, d]) w := fun a b c d e f g h => by kernel_rfl
 have p1 : ∀ a b c d e f g h : Value, (Go.part 69 #[a, b, c, d, e, f, g, h] 4).run Tryd.prog w = .ok (.agg #[e, f, g, h]) w := fun a b c d e f g h => by kernel_rfl
 have e0 := Uf 9997 w I I'
 have e1 := Uf 9997 w J J'
 have hn : (9997 + 1 + 1 : Nat) = 9999 := rfl
 rw [hn] at e0 e1
 generalize (9999 : Nat) = m at e0 e1 ⊢
 simp only [aW] at e0 e1
 simp only [Op.eqItems, Sem.run_bind, Nat.zero_mul, Nat.one_mul, p0, Result.andThen_ok, e0]
 cases nR I I'
 · simp
 · simp only [Sem.run_bind, Bool.not_true, Bool.false_eq_true, if_false, p1, Result.andThen_ok, e1]
   cases nR J J' <;> simp
noncomputable def lQ (I : Nat → Bool) : Bool := nR I fun _ => false
theorem uq {I : Nat → Bool} : lQ I = true ↔ ∀ v, v < 256 → I v = false := Gm
set_option maxRecDepth 100000 in
set_option maxHeartbeats 4000000 in
theorem rQ {w : World} (I : Nat → Bool) {r : Bool} (hr : lQ I = r) :
 Calls Tryd.prog 128 #[aW I] w fun e w' => e = .returned (.bool r) ∧ Below w.heap.size w w' := by
 have he : ∀ w, (Op.equalIn 10000 69 (.agg #[.int .u64 (aj I 0), .int .u64 (aj I 1), .int .u64 (aj I 2), .int .u64 (aj I 3)]) (.agg #[.int .u64 0, .int .u64 0, .int .u64 0, .int .u64 0])).run Tryd.prog w = .ok r w := fun w => by
  have h := Ug w I (fun _ => false)
  rw [← hr]
  unfold lQ
  rw [← h]
  unfold aW
  rw [jG, jG, jG, jG]
  rfl
 clear hr
 go_enter Tryd.func128, Tryd.ntmps128
 go_wp2
 go_ret
 exact ⟨rfl, aA _ _⟩
theorem agB (I : Nat → Bool) (v : Nat) (r : Bool) (hr : I v = r) : (bits .and .u64 ((aj I (v / 64) : Int) / 2 ^ (v % 64)) 1 == 1) = r := by
 have h := agn I v
 have hl := yt I (v / 64)
 have e1 : ((aj I (v / 64) : Int) / 2 ^ (v % 64)) = ((aj I (v / 64) / 2 ^ (v % 64) : Nat) : Int) := by
  rw [Int.natCast_ediv, Int.natCast_pow]; rfl
 have e2 : aj I (v / 64) / 2 ^ (v % 64) < 18446744073709551616 := Nat.lt_of_le_of_lt (Nat.div_le_self _ _) hl
 rw [e1, show (1 : Int) = ((1 : Nat) : Int) from rfl, u64_and_nat _ _ e2 (by decide), Nat.and_one_is_mod, h]
 rw [hr]
 cases r <;> rfl
set_option maxRecDepth 100000 in
set_option maxHeartbeats 4000000 in
theorem Du {w : World} (I : Nat → Bool) (v : Nat) {r : Bool} (hr : I v = r) (hv : v < 256) :
 Calls Tryd.prog 105 #[aW I, .int .i64 v] w fun e w' => e = .returned (.bool r) ∧ Below w.heap.size w w' := by
 have he := agB I v r hr
 have hc := (aH.new w I).cell (k := v / 64) (by omega)
 have h0 : (0 : Int) ≤ (v : Int) := by omega
 have h1 : (v : Int) < 256 := by omega
 clear hr
 go_enter Tryd.func105, Tryd.ntmps105
 go_wp2
 go_ret
 exact ⟨rfl, aA _ _⟩
def cZ (w : World) (g : Nat) (I J : Nat → Bool) : Prop := w.heap[g]? = some (.cells #[.int .u64 (aj I 0), .int .u64 (aj I 1), .int .u64 (aj I 2), .int .u64 (aj I 3), .int .u64 (aj J 0), .int .u64 (aj J 1), .int .u64 (aj J 2), .int .u64 (aj J 3)] 71 (0, 0))
set_option maxRecDepth 100000 in
set_option maxHeartbeats 4000000 in
theorem aaG {w : World} (I J : Nat → Bool) (v : Nat) {r : Bool} (hr : J v = r) (hv : v < 256) :
 Calls Tryd.prog 64 #[jc I J, .int .i64 v] w fun e w' => e = .returned (.int .i64 (if r = true then 1 else 0)) ∧ Below w.heap.size w w' := by
 have HC := fun w => Du (w := w) J v hr hv
 clear hr
 cases r
 all_goals
  go_enter Tryd.func64, Tryd.ntmps64
  go_wp2_with (go_at_call 105; refine (HC _).mono ?_; rintro e w1 ⟨rfl, hb⟩)
  go_ret
  exact ⟨rfl, (aA _ _).trans (hb.mono (by simp))⟩
theorem aH.row {w : World} {g : Nat} {I : Nat → Bool} (h : aH w g I) : w.rowIs g 69 4 (fun j => .int .u64 (aj I j)) := World.rowIs.congr (jH.start (K := I) h) fun i _ => by simp
theorem aH.aaH {w : World} {g : Nat} {I : Nat → Bool} (h : w.rowIs g 69 4 (fun j => .int .u64 (aj I j))) : aH w g I := jH.done (I := I) (World.rowIs.congr h fun i hi => by simp [hi])
theorem aH.put {w : World} {g v : Nat} {I : Nat → Bool} (h : aH w g I) : aH (w.setCell ⟨g, v / 64, none⟩ (.int .u64 (aj (aO I (aS v)) (v / 64)))) g (aO I (aS v)) := by
 refine aH.aaH (World.rowIs.congr (World.rowIs.set h.row (v / 64) _) fun i hi => ?_)
 by_cases e : i = v / 64
 · subst e; simp
 · simp [e, agm I e]
theorem agC {w : World} {g : Nat} {t : TypeId} {a b c d : Value} (h : w.heap[g]? = some (.cells #[a, b, c, d] t (0, 0))) :
 w.frozen? ⟨g, 0, none⟩ = false ∧ w.frozen? ⟨g, 1, none⟩ = false ∧ w.frozen? ⟨g, 2, none⟩ = false ∧ w.frozen? ⟨g, 3, none⟩ = false ∧
  w.cell? ⟨g, 0, none⟩ = some a ∧ w.cell? ⟨g, 1, none⟩ = some b ∧ w.cell? ⟨g, 2, none⟩ = some c ∧ w.cell? ⟨g, 3, none⟩ = some d := by
 refine ⟨?_, ?_, ?_, ?_, ?_, ?_, ?_, ?_⟩ <;> simp [World.cell?, World.frozen?, h]
def eX (zs : List Int) : Nat → Bool := fun v => hasB zs (v : Int)
theorem wR {zs : List Int} {v : Nat} : eX zs v = true ↔ (v : Int) ∈ zs := by unfold eX; exact xK
theorem aaI {zs : List Int} {v : Nat} : eX (zs ++ [(v : Int)]) = aO (eX zs) (aS v) := funext fun x => by
 rw [Bool.eq_iff_iff, wR]
 unfold aO aS
 rw [Bool.or_eq_true, wR]
 simp only [List.mem_append, List.mem_singleton, decide_eq_true_eq, Int.natCast_inj]
theorem or_bit (I : Nat → Bool) (v : Nat) : bits .or .u64 (aj I (v / 64) : Int) ((2 ^ (v % 64) : Nat) : Int) = (aj (aO I (aS v)) (v / 64) : Int) := by
 have h : 2 ^ (v % 64) < 18446744073709551616 := Nat.pow_lt_pow_right (a := 2) (n := 64) (by omega) (by omega)
 rw [u64_or_nat _ _ (yt _ _) h, agl]
set_option maxRecDepth 100000 in
set_option maxHeartbeats 4000000 in
theorem Uh {w : World} {a : Option Addr} {zs : List Int} (cap : Nat) (h : aV w a zs) (hz : ∀ x ∈ zs, ∃ v : Nat, x = (v : Int) ∧ v < 256) (hl : zs.length ≤ 1048576) :
 Calls Tryd.prog 103 #[.slice a zs.length cap] w fun e w' => e = .returned (aW (eX zs)) ∧ Below w.heap.size w w' := by
 have HI := Lib.hid h
 have HZ := Lib.hid hz
 clear h hz
 go_enter Tryd.func103, Tryd.ntmps103
 go_wp2
 obtain ⟨w1, hw1⟩ : ∃ y, y = (w.alloc (.cells #[.int .u64 0, .int .u64 0, .int .u64 0, .int .u64 0] 69)).alloc (.cells #[.int .u64 0, .int .u64 0, .int .u64 0, .int .u64 0] 69) := ⟨_, rfl⟩
 rw [← hw1]
 have HB : Hid (Below w.heap.size w w1) := by rw [hw1]; exact below2 _ _ _
 have e0 : (.cells #[.int .u64 0, .int .u64 0, .int .u64 0, .int .u64 0] 69 : Obj) = .cells #[.int .u64 (aj (eX []) 0), .int .u64 (aj (eX []) 1), .int .u64 (aj (eX []) 2), .int .u64 (aj (eX []) 3)] 69 := by
  have : eX [] = fun _ => false := rfl
  rw [this, jG, jG, jG, jG]; rfl
 have HM : Hid (aH w1 (w.heap.size + 1) (eX (zs.take 0))) := by
  rw [hw1, e0]
  have h := aH.new (w.alloc (.cells #[.int .u64 (aj (eX []) 0), .int .u64 (aj (eX []) 1), .int .u64 (aj (eX []) 2), .int .u64 (aj (eX []) 3)] 69)) (eX [])
  rw [World.size_alloc] at h
  exact h
 have HR : Hid (w1.heap[w.heap.size]? = some (.cells #[.int .u64 0, .int .u64 0, .int .u64 0, .int .u64 0] 69 (0, 0))) := by
  rw [hw1]
  exact (Below.heap_alloc _ _ _ (by simp)).trans (heap_alloc_new w _)
 clear hw1 e0
 go_loopw [8] (fun iv wr => ∃ k : Nat, k ≤ zs.length ∧ iv = .int .i64 k ∧ Hid (aH wr (w.heap.size + 1) (eX (zs.take k))) ∧ Hid (Only (fun b => b = w.heap.size + 1) w1 wr)) (fun iv _ => zs.length - (intOf iv).toNat)
 case atStart => exact ⟨0, Nat.zero_le _, rfl, HM, Only.refl _ _⟩
 case round =>
  obtain ⟨k, hk, rfl, HM, HO⟩ := hrel
  by_cases hlt : k < zs.length
  · have hi1 : (k : Int) < zs.length := by omega
    have hk0 : (0 : Int) ≤ (k : Int) := by omega
    obtain ⟨v, hv, FW⟩ := HZ.out _ (jo hlt)
    have hs := HB.out.size
    obtain ⟨ib, io, hia, hic⟩ := ((HI.out.below HB.out)).cell (by omega)
    have i1 := hic k hlt
    rw [hv] at i1
    have hbb : ib < w.heap.size := by
     obtain ⟨ib2, io2, aaJ, agD⟩ := HI.out.cell (by omega)
     rw [hia] at aaJ
     cases aaJ
     exact World.block_lt_of_cell? _ _ (agD k hlt)
    have i2 : wr.cell? ⟨ib, io + k, none⟩ = some (.int .i64 v) := (World.cell?_of_block (HO.out.block ib (by omega) (by omega))).trans i1
    have h0 : (0 : Int) ≤ (v : Int) := by omega
    have h1 : (v : Int) < 256 := by omega
    obtain ⟨d, hd⟩ : ∃ d, d = v / 64 := ⟨_, rfl⟩
    obtain ⟨m, hm⟩ : ∃ m, m = v % 64 := ⟨_, rfl⟩
    have c1 := HM.out.cell (k := d) (by omega)
    have f1 := HM.out.frozen d
    have hst : eX (zs.take (k + 1)) = aO (eX (zs.take k)) (aS v) := by rw [take_snoc hlt, hv, aaI]
    have HST := Lib.hid hst
    have he := or_bit (eX (zs.take k)) v
    rw [← hd, ← hm] at he
    obtain ⟨x, hx⟩ : ∃ x : Nat, x = 2 ^ m := ⟨_, rfl⟩
    rw [← hx] at he
    have hxl : x < 18446744073709551616 := by rw [hx]; exact Nat.pow_lt_pow_right (a := 2) (n := 64) (by omega) (by omega)
    have q1 : IntKind.i64.wrap ((v : Int) / 64) = (d : Int) := by rw [IntWalk.i64_in _ (by omega)]; omega
    have q2 : (v : Int).tmod 64 = (m : Int) := by rw [Int.tmod_eq_emod_of_nonneg h0]; omega
    have q3 : (0 : Int) ≤ (d : Int) := by omega
    have q4 : (d : Int) < 4 := by omega
    have q5 : (0 : Int) ≤ (m : Int) := by omega
    have q6 : (m : Int) < 64 := by omega
    have q7 : IntKind.u64.wrap (2 ^ m) = (x : Int) := by
     have : (2 ^ m : Int) = (x : Int) := by rw [hx]; simp
     rw [this, IntKind.wrap_u64]; omega
    have HD := Lib.hid hd
    clear hic i1 hst hv hd hm hx
    subst hia
    go_wp2
    go_region_law (fail)
    all_goals (
     go_wp2
     go_roundw
     case rel =>
      refine ⟨k + 1, by omega, by go_num, ?_, kS (HO.out.setCell (p := ⟨w.heap.size + 1, d, none⟩) rfl _)⟩
      rw [HST.out, HD.out]
      exact HM.out.put
     case measure => simp [intOf]; omega)
  · have hi1 : ¬ (k : Int) < zs.length := by omega
    obtain rfl : k = zs.length := by omega
    rw [List.take_length] at HM
    have c0 := HM.out.c0
    have c1 := HM.out.c1
    have c2 := HM.out.c2
    have c3 := HM.out.c3
    have hs := HB.out.size
    have hr2 := (HO.out.block _ (Array.getElem?_eq_some_iff.1 HR.out).1 (by omega)).trans HR.out
    obtain ⟨z0, z1, z2, z3, y0, y1, y2, y3⟩ := agC hr2
    clear hr2
    go_wp2
    refine bodyPost_ret (v := aW (eX zs)) (by simp [results, Tryd.results103, go_sem, y0, y1, y2, y3]) rfl ⟨rfl, ?_⟩
    have hs2 := HO.out.size
    have hB2 := HB.out.trans ((HO.out.below (B := w.heap.size) (by omega) (fun b hb => by omega)))
    exact (((hB2.setCell (p := ⟨w.heap.size, 0, none⟩) (by simp) _).setCell (p := ⟨w.heap.size, 1, none⟩) (by simp) _).setCell (p := ⟨w.heap.size, 2, none⟩) (by simp) _).setCell (p := ⟨w.heap.size, 3, none⟩) (by simp) _
end
end Go.Proofs.YtglbkbiphcgidaaDoor
namespace Go.Proofs.YtglbkbiphcgidaaDoor
section
open Go.RowKit Go.Shelf
def dS (w : World) : Prop := ∀ j, j < 64 → w.cell? ⟨1, j, none⟩ = some (.int .u8 (Lib.deBruijn64tab.getD j 0))
theorem dS.lt {w : World} (h : dS w) : 1 < w.heap.size := World.block_lt_of_cell? _ _ (h 0 (by omega))
theorem dS.below {w w' : World} (h : dS w) (hb : Below w.heap.size w w') : dS w' := fun j hj => (hb.cell (p := ⟨1, j, none⟩) h.lt).trans (h j hj)
theorem dS.only {S : Nat → Prop} {w w' : World} (h : dS w) (hk : Only S w w') (hs : ¬ S 1) : dS w' := fun j hj => (World.cell?_of_block (hk.block _ h.lt hs)).trans (h j hj)
theorem agE (x a : Nat) (hx : x < 18446744073709551616) (hx0 : x ≠ 0) (hlow : x &&& (18446744073709551616 - x) = a) :
 IntKind.u64.wrap (bits BinOp.and IntKind.u64 (x : Int) (IntKind.u64.wrap (-(x : Int))) * 285870213051353865) / 288230376151711744 = ((a * 285870213051353865 % 18446744073709551616 / 288230376151711744 : Nat) : Int) := by
 have e1 : IntKind.u64.wrap (-(x : Int)) = ((18446744073709551616 - x : Nat) : Int) := by rw [IntKind.wrap_u64]; omega
 rw [e1, u64_and_nat x _ hx (by omega), hlow, IntKind.wrap_u64]
 omega
set_option maxRecDepth 100000 in
set_option maxHeartbeats 4000000 in
theorem agF {w : World} (x : Nat) (hx : x < 18446744073709551616) (hx0 : x ≠ 0) (hT : dS w) :
 Calls Tryd.prog 140 #[.int .u64 x] w fun e w' => e = .returned (.int .i64 (Lib.ctz 64 x)) ∧ w = w' := by
 obtain ⟨hlow, hk⟩ := Lib.lowest_bit 64 x hx0 hx
 obtain ⟨hi, htab⟩ := Lib.deBruijn64_at _ hk
 have hcell := hT _ hi
 rw [htab] at hcell
 have key := agE x _ hx hx0 hlow
 obtain ⟨k, hkk⟩ : ∃ k, k = Lib.ctz 64 x := ⟨_, rfl⟩
 rw [← hkk] at hk hcell key hi ⊢
 obtain ⟨idx, hidx⟩ : ∃ idx, idx = 2 ^ k * 285870213051353865 % 18446744073709551616 / 288230376151711744 := ⟨_, rfl⟩
 rw [← hidx] at hcell key hi
 have h0 : ((x : Int) == 0) = false := beq_eq_false_iff_ne.2 (by omega)
 have h1 : (idx : Int) < 64 := by omega
 have h2 : (0 : Int) ≤ (idx : Int) := by omega
 have h3 : (k : Int) < 64 := by omega
 have h4 : (0 : Int) ≤ (k : Int) := by omega
 clear hlow htab hkk hidx hx0
 go_enter Tryd.func140, Tryd.ntmps140
 go_wp2_with (simp only [key])
 go_ret
 exact ⟨rfl, rfl⟩
set_option maxHeartbeats 1000000 in
theorem Gn (w : World) (I : Nat → Bool) :
 Calls Tryd.prog 112 #[aW I] w fun e w' => e = .returned (.func (.func 139) #[] #[.pointer (some ⟨w.heap.size, 0, none⟩)]) ∧ w' = w.alloc (.cells #[.int .u64 (aj I 0), .int .u64 (aj I 1), .int .u64 (aj I 2), .int .u64 (aj I 3)] 69) := by
 go_enter Tryd.func112, Tryd.ntmps112
 go_wp2
 go_ret
 exact ⟨rfl, rfl⟩
end
section
open Go.RowKit Go.Shelf
attribute [local go_sem] Oper.semAt_some
abbrev eH (I : Nat → Bool) := { v : Nat // v < 256 ∧ I v = true }
def encI {I : Nat → Bool} (x : eH I) : Array Value := #[.int .i64 (x.1 : Int)]
def jd {I : Nat → Bool} (pre : List (eH I)) : List Int := pre.map fun x => (x.1 : Int)
def nS (W W' : World) : Prop := W'.heap[(1 : Nat)]? = W.heap[(1 : Nat)]?
theorem nS.refl (W : World) : nS W W := rfl
theorem nS.trans {A B C : World} (h : nS A B) (k : nS B C) : nS A C := Eq.trans k h
theorem nS.tab {W W' : World} (h : nS W W') (hT : dS W) : dS W' := fun j hj => (World.cell?_of_block (a := ⟨1, j, none⟩) h).trans (hT j hj)
theorem agG {w : World} (hT : dS w) (W : World) (l : Nat) (o o' : Obj) (hl : w.heap.size ≤ l) (_ : W.heap[l]? = some o) (_ : o.isCells = false) (_ : o.isWalk = false) : nS W (W.putObj l o') :=
 World.putObj_heap_other (by have := hT.lt; omega)
theorem agH (I : Nat → Bool) {k : Nat} (hk : k < 4) (w : World) : (Instr.index 69 (.agg #[.int .u64 (aj I 0), .int .u64 (aj I 1), .int .u64 (aj I 2), .int .u64 (aj I 3)]) (.int .i64 (k : Int))).run Tryd.prog w = .ok (.int .u64 (aj I k)) w := by
 have i0 : ∀ a b c d : Value, (Instr.index 69 (.agg #[a, b, c, d]) (.int .i64 0)).run Tryd.prog w = .ok a w := fun _ _ _ _ => by kernel_rfl
 have i1 : ∀ a b c d : Value, (Instr.index 69 (.agg #[a, b, c, d]) (.int .i64 1)).run Tryd.prog w = .ok b w := fun _ _ _ _ => by kernel_rfl
 have i2 : ∀ a b c d : Value, (Instr.index 69 (.agg #[a, b, c, d]) (.int .i64 2)).run Tryd.prog w = .ok c w := fun _ _ _ _ => by kernel_rfl
 have i3 : ∀ a b c d : Value, (Instr.index 69 (.agg #[a, b, c, d]) (.int .i64 3)).run Tryd.prog w = .ok d w := fun _ _ _ _ => by kernel_rfl
 have : k = 0 ∨ k = 1 ∨ k = 2 ∨ k = 3 := by omega
 rcases this with rfl | rfl | rfl | rfl
 · exact i0 _ _ _ _
 · exact i1 _ _ _ _
 · exact i2 _ _ _ _
 · exact i3 _ _ _ _
theorem aaK {I : Nat → Bool} : ∀ {n m : Nat}, m ≤ n → (aU I n).take (aU I m).length = aU I m
 | 0, m, h => by
   obtain rfl : m = 0 := by omega
   rfl
 | n + 1, m, h => by
   by_cases e : m = n + 1
   · rw [e, List.take_length]
   · have ih := aaK (I := I) (n := n) (m := m) (by omega)
     rw [aU, List.take_append_of_le_length]
     · exact ih
     · rw [← ih, List.length_take]; omega
theorem agI (x : Nat) (hx : x < 18446744073709551616) (h0 : x ≠ 0) : bits .and .u64 (x : Int) ((x : Int) - 1) = ((x &&& (x - 1) : Nat) : Int) := by
 have e : (x : Int) - 1 = ((x - 1 : Nat) : Int) := by omega
 rw [e, u64_and_nat _ _ hx (by omega)]
set_option maxRecDepth 100000 in
set_option maxHeartbeats 4000000 in
theorem all1_in (m : Nat) (hm : 1 ≤ m) (l Bs : Nat) (I : Nat → Bool) (J Jx : List (eH I) → World → Prop)
 (hY : ∀ pre x W, J pre W → pre.length < 256 → YieldAt Fence.wide (m - 1) Tryd.prog l (encI x) W fun e W' =>
  (e = .returned (.bool true) ∧ J (pre ++ [x]) W' ∧ nS W W') ∨ (e = .returned (.bool false) ∧ Jx (pre ++ [x]) W'))
 (W : World) (hT : dS W) (hBs : aH W Bs I) (h0 : J [] W) :
 CallsIn Fence.wide m Tryd.prog 139 #[.func (.yield l) #[] #[], .pointer (some ⟨Bs, 0, none⟩)] W fun e W' => (∃ v, e = .returned v) ∧
  ((∃ ys, jd ys = aU I 256 ∧ J ys W') ∨ (∃ pre, (∃ k, jd pre = (aU I 256).take k) ∧ Jx pre W')) := by
 have c0 := hBs.c0
 have c1 := hBs.c1
 have c2 := hBs.c2
 have c3 := hBs.c3
 have HY := Lib.hid hY
 have HT := Lib.hid hT
 clear hY hT hBs
 refine callsIn_of_wp Tryd.func139 rfl trivial ?_ rfl
 simp only [Tryd.ntmps139, List.size_toArray, List.length_cons, List.length_nil, Nat.reduceAdd, Nat.reduceSub, Array.replicate_succ, Array.replicate_zero, List.push_toArray, List.append_toArray, List.nil_append, List.cons_append]
 gi_wp2
 gi_loopw [6] (fun iv wr => ∃ (k : Nat) (pre : List (eH I)), k ≤ 4 ∧ iv = .int .i64 k ∧ Hid (jd pre = aU I (64 * k)) ∧ Hid (J pre wr) ∧ Hid (nS W wr)) (fun iv _ => 4 - (intOf iv).toNat)
 case atStart => exact ⟨0, [], by omega, by go_num, rfl, h0, nS.refl _⟩
 case round =>
  obtain ⟨k, pre, hk, rfl, HP, HJ, HS⟩ := hrel
  by_cases hlt : k < 4
  · have hi1 : (k : Int) < 4 := by omega
    have hk0 : (0 : Int) ≤ (k : Int) := by omega
    have hix := agH I hlt
    gi_wp2
    obtain ⟨wo, hwo⟩ : ∃ wo : World, wo = wr := ⟨_, rfl⟩
    rw [← hwo] at HJ HS ⊢
    clear hwo
    gi_loopw [4] (fun xv wr => ∃ (c : Nat) (yx : List (eH I)), c ≤ 64 ∧ xv = .int .u64 (jy I k c) ∧ Hid (jd yx = aU I (64 * k + c)) ∧ Hid (J yx wr) ∧ Hid (nS W wr)) (fun xv _ => (intOf xv).toNat)
    case atStart => exact ⟨0, pre, by omega, by rw [agp], HP, HJ, HS⟩
    case round =>
     obtain ⟨c, yx, hc, rfl, HP2, HJ2, HS2⟩ := hrel
     by_cases hx0 : jy I k c = 0
     · have hx1 : ((jy I k c : Int) == 0) = true := by rw [hx0]; rfl
       have hx2 : ((jy I k c : Int) != 0) = false := by rw [hx0]; rfl
       have HPn : Hid (jd yx = aU I (64 * (k + 1))) := by
        have h := agq.1 hx0
        rw [HP2.out]
        exact (Ue (v := 64 * (k + 1)) (by omega) fun x h1 h2 => by
         have := h (x - 64 * k) (by omega) (by omega)
         rwa [show 64 * k + (x - 64 * k) = x by omega] at this).symm
       clear hx0
       gi_wp2
       go_roundw
       case rel => exact ⟨k + 1, yx, by omega, by go_num, HPn, HJ2, HS2⟩
       case measure => simp [intOf]; omega
     · have hx1 : ((jy I k c : Int) == 0) = false := beq_eq_false_iff_ne.2 (by omega)
       have hx2 : ((jy I k c : Int) != 0) = true := bne_iff_ne.2 (by omega)
       obtain ⟨d, hd, akj, hcd, hId, aaL, hdrop⟩ := ags hx0
       have hxl := aaD I k c
       have hsub := agI _ hxl hx0
       rw [hdrop] at hsub
       have hless : jy I k (d + 1) < jy I k c := by
        rw [← hdrop]
        exact Nat.lt_of_le_of_lt Nat.and_le_right (by omega)
       have HC := Lib.hid (agF (w := wr) (jy I k c) hxl hx0 (HS2.out.tab HT.out))
       rw [hd] at HC
       obtain ⟨v, hv⟩ : ∃ v, v = 64 * k + d := ⟨_, rfl⟩
       have FW : v < 256 := by omega
       have iE : I v = true := by rw [hv]; exact hId
       have hq : (k : Int) * 64 + (d : Int) = (v : Int) := by omega
       have hb1 : (0 : Int) ≤ (d : Int) := by omega
       have hb2 : (d : Int) < 64 := by omega
       have Nr : yx.length < 256 := by
        have h1 := sV I (64 * k + c)
        rw [← HP2.out] at h1
        unfold jd at h1
        rw [List.length_map] at h1
        omega
       have Ar := HY.out yx ⟨v, FW, iE⟩ wr HJ2.out Nr
       unfold encI at Ar
       dsimp only at Ar
       have hpn : jd (yx ++ [(⟨v, FW, iE⟩ : eH I)]) = aU I (v + 1) := by
        unfold jd
        rw [List.map_append, List.map_singleton]
        show jd yx ++ _ = _
        rw [HP2.out, aU, if_pos iE]
        congr 1
        rw [hv]
        exact (Ue (by omega) fun x h1 h2 => by
         have := aaL (x - 64 * k) (by omega) (by omega)
         rwa [show 64 * k + (x - 64 * k) = x by omega] at this).symm
       have FC := Lib.hid hpn
       have HV := Lib.hid hv
       clear hpn hv hd aaL hdrop hx0 hId Nr
       obtain ⟨fn, tmps, assign, body, hy, hR⟩ := Ar
       gi_wp2_with (refine ⟨trivial, ?_⟩; gi_at_call 140; refine (callsIn_wide.2 HC.out).mono ?_; rintro e w2 ⟨rfl, rfl⟩)
       refine hR.mono ?_
       rintro e W3 (⟨rfl, hJ3, hk3⟩ | ⟨rfl, hJx3⟩)
       · gi_wp2
         go_roundw
         case rel =>
          refine ⟨d + 1, _, by omega, rfl, ?_, hJ3, HS2.out.trans hk3⟩
          show _ = aU I (64 * k + (d + 1))
          rw [FC.out, HV.out]
          rfl
         case measure => simp [intOf]; omega
       · gi_wp2
         refine bodyPost_ret (results_none rfl _ _ _) rfl ?_
         refine ⟨⟨_, rfl⟩, .inr ⟨_, ⟨(aU I (v + 1)).length, ?_⟩, hJx3⟩⟩
         rw [FC.out]
         exact (aaK (by omega)).symm
  · have hi1 : ¬ (k : Int) < 4 := by omega
    obtain rfl : k = 4 := by omega
    gi_wp2
    go_end0
    exact ⟨⟨_, rfl⟩, .inl ⟨pre, HP.out, HJ.out⟩⟩
theorem all_stops (m : Nat) (hm : 1 ≤ m) (Bs : Nat) (I : Nat → Bool) (w : World) (hT : dS w) (hBs : aH w Bs I) :
 SeqStopsK Fence.wide m Tryd.prog 139 #[.pointer (some ⟨Bs, 0, none⟩)] (encI (I := I)) nS (fun ys => jd ys = aU I 256) (fun pre => ∃ k, jd pre = (aU I 256).take k) 256 w := fun l J Jx W hW _ _ hY h0 =>
 all1_in m hm l Bs I J Jx hY W (hT.below hW) (hBs.below hW) h0
end
end Go.Proofs.YtglbkbiphcgidaaDoor
namespace Go.Proofs.YtglbkbiphcgidaaDoor
section
variable {P : Program} {ops : Array Oper} {Q : Exit → Act → World → Prop} {md : Region.Mode} {S : World → Prop} {m : Nat}
def Ui (md : Region.Mode) (ops : Array Oper) (m : Nat) : Bool :=
 (List.range ops.size).all fun j => decide (j < m) || (List.range m).all fun i => match ops[j]? with | some o => o.after.any fun e => Region.binds md e && e.on == i | none => true
theorem g1 {α : Type _} {l : List α} {i : Nat} {a : α} : l.toArray.setIfInBounds i a = (l.set i a).toArray := List.setIfInBounds_toArray ..
theorem g2 {α : Type _} {x a : α} {xs : List α} : (x :: xs).set 0 a = a :: xs := rfl
theorem g3 {α : Type _} {x a : α} {xs : List α} {n : Nat} : (x :: xs).set (n + 1) a = x :: xs.set n a := rfl
theorem tail_waits {i j : Nat} {listed : Array Bool} (h : Ui md ops m = true) (hi : i < m) (hu : listed.getD i true = false) (hj : j ∈ Region.ready md ops listed) : j < m := by
 obtain ⟨-, o, ho, hall⟩ := mem_ready.1 hj
 have hjs : j < ops.size := (Array.getElem?_eq_some_iff.1 ho).1
 have h1 := List.all_eq_true.1 h j (List.mem_range.2 hjs)
 rw [Bool.or_eq_true, decide_eq_true_eq] at h1
 rcases h1 with h1 | h1
 · exact h1
 · have h2 := List.all_eq_true.1 h1 i (List.mem_range.2 hi)
   rw [ho] at h2
   obtain ⟨q, hq, hb⟩ := Array.any_eq_true.1 h2
   obtain ⟨x, hxe⟩ : ∃ x, x = o.after[q] := ⟨_, rfl⟩
   have hx : x ∈ o.after := by rw [hxe]; exact Array.getElem_mem hq
   rw [← hxe] at hb
   rw [Bool.and_eq_true, beq_iff_eq] at hb
   have h3 := hall x hx hb.1
   rw [hb.2] at h3
   by_cases hlt : i < listed.size
   · simp [hlt] at hu h3
     rw [hu] at h3
     exact Bool.noConfusion h3
   · have hn : listed[i]? = none := Array.getElem?_eq_none (by omega)
     simp [hn] at h3
def lS (P : Program) (md : Region.Mode) (ops : Array Oper) (Q : Exit → Act → World → Prop) (S : World → Prop) (m : Nat) : Nat → Array Bool → Act → World → Prop
 | 0, listed, a, w => Region.ready md ops listed = [] ∧ Q .normal a w
 | fuel + 1, listed, a, w =>
   (Region.ready md ops listed = [] → Q .normal a w) ∧
   ∀ i ∈ Region.ready md ops listed, wpOp P ops Q i (fun a' w' => (i < m → S w') ∧ lS P md ops Q S m fuel (listed.setIfInBounds i true) a' w') a w
theorem Uj : ∀ (fuel : Nat) (listed : Array Bool) (a : Act) (w : World), lS P md ops Q S m fuel listed a w → wpAny P md ops Q fuel listed a w
 | 0, _, _, _, h => h
 | fuel + 1, _, _, _, h => ⟨h.1, fun i hi => wpOp_mono (fun _ _ h' => Uj fuel _ _ _ h'.2) (h.2 i hi)⟩
theorem agJ {i : Nat} {oi : Oper} {v : Value} (hT : Ui md ops m = true) (him : i < m) (hi : ops[i]? = some oi) (hsel : ∀ (j : Nat) (o : Oper) cs b, ops[j]? = some o → o.op ≠ .select cs b)
 (hQ : ∀ c a w, Q (.panic c) (a.put oi.dst v) w → Q (.panic c) a w) :
 ∀ (fuel : Nat) (listed : Array Bool) (a : Act) (w : World),
  (∀ j oj, ops[j]? = some oj → j ≠ i → listed.getD j true = false → (∀ e ∈ oj.after, Region.binds md e = true → e.on ≠ i) → oi.apart ops oj = true) →
  i ∈ Region.ready md ops listed → YieldsIf P ops S oi v a → S w →
  lS P md ops Q S m fuel (listed.setIfInBounds i true) (a.put oi.dst v) w → lS P md ops Q S m (fuel + 1) listed a w := by
 intro fuel
 induction fuel with
 | zero =>
   intro listed a w _ hr hy hS H
   refine ⟨fun h => absurd hr (by rw [h]; exact List.not_mem_nil), fun j hj => ?_⟩
   by_cases e : j = i
   · rw [e]; exact hy.wpOp hi hS ⟨fun _ => hS, H⟩
   · have := ready_mono hj e
     rw [H.1] at this
     exact absurd this List.not_mem_nil
 | succ fuel ih =>
   intro listed a w hfree hr hy hS H
   refine ⟨fun h => absurd hr (by rw [h]; exact List.not_mem_nil), fun j hj => ?_⟩
   by_cases e : j = i
   · rw [e]; exact hy.wpOp hi hS ⟨fun _ => hS, H⟩
   · obtain ⟨hjun, oj, hoj, hall⟩ := mem_ready.1 hj
     have Uk := (mem_ready.1 hr).1
     have hjm : j < m := tail_waits hT him Uk hj
     have hnot : ∀ e ∈ oj.after, Region.binds md e = true → e.on ≠ i := fun x hx hb heq => by
      have h1 := hall x hx hb
      rw [heq] at h1
      by_cases hlt : i < listed.size
      · simp [hlt] at Uk h1
        rw [Uk] at h1
        exact Bool.noConfusion h1
      · have hn : listed[i]? = none := Array.getElem?_eq_none (by omega)
        simp [hn] at h1
     have h2 := wpOp_putIf hoj (hfree j oj hoj e hjun hnot) (fun cs b => hsel i oi cs b hi) (fun cs b => hsel j oj cs b hoj) hQ hy (H.2 j (ready_mono hj e))
     have hfree' : ∀ k ok, ops[k]? = some ok → k ≠ i → (listed.setIfInBounds j true).getD k true = false → (∀ x ∈ ok.after, Region.binds md x = true → x.on ≠ i) → oi.apart ops ok = true := fun k ok hk hki hun hno => by
      refine hfree k ok hk hki ?_ hno
      by_cases hjk : j = k
      · rw [← hjk]; exact hjun
      · rw [getD_set_ne true hjk] at hun; exact hun
     refine wpOp_mono (fun a' w' h3 => ?_) h2
     obtain ⟨hy3, hS3, hW3⟩ := h3
     have hS4 := hS3 hjm
     refine ⟨fun _ => hS4, ih _ a' w' hfree' (ready_mono hr (fun x => e x.symm)) hy3 hS4 ?_⟩
     rw [Array.setIfInBounds_comm _ _ e]
     exact hW3
theorem aB {i : Nat} {oi : Oper} {v : Value} {fuel : Nat} {listed : Array Bool} {a : Act} {w : World} (hi : ops[i]? = some oi) (hT : Ui md ops m = true) (him : i < m)
 (hs : Region.noSelect ops = true) (hf : Region.free md ops listed i = true) (hr : (Region.ready md ops listed).contains i = true)
 (hQ : ∀ c a w, Q (.panic c) (a.put oi.dst v) w → Q (.panic c) a w) (hy : YieldsIf P ops S oi v a) (hS : S w)
 (h : lS P md ops Q S m fuel (listed.setIfInBounds i true) (a.put oi.dst v) w) : lS P md ops Q S m (fuel + 1) listed a w :=
 agJ hT him hi (Region.noSelect_spec hs) hQ fuel listed a w (Region.free_spec hi hf) (by simpa using hr) hy hS h
theorem aG {i : Nat} {o : Oper} {fuel : Nat} {listed : Array Bool} {a : Act} {w : World} (hr : Region.ready md ops listed = [i]) (ho : ops[i]? = some o)
 (h : ∀ K' : Act → World → Prop, Shut (∀ a w, (i < m → S w) → ((i < m → S w) → lS P md ops Q S m fuel (listed.setIfInBounds i true) a w) → K' a w) → if Region.wanted o (yielded ops a.tmps) = true then Oper.wp P o a w K' Q else K' (a.put o.dst undef) w) :
 lS P md ops Q S m (fuel + 1) listed a w :=
 ⟨fun h0 => absurd h0 (by rw [hr]; exact List.cons_ne_nil _ _), fun j hj => by
  rw [hr, List.mem_singleton] at hj
  rw [hj]
  exact wpOp_step ho (fun K' hK => h K' (fun a w hS hW => hK a w ⟨hS, hW hS⟩))⟩
theorem jA {i j : Nat} {o o' : Oper} {fuel : Nat} {listed : Array Bool} {a : Act} {w : World} (hr : Region.ready md ops listed = [i, j]) (ho : ops[i]? = some o) (ho' : ops[j]? = some o')
 (h : ∀ K' : Act → World → Prop, Shut (∀ a w, (i < m → S w) → ((i < m → S w) → lS P md ops Q S m fuel (listed.setIfInBounds i true) a w) → K' a w) → if Region.wanted o (yielded ops a.tmps) = true then Oper.wp P o a w K' Q else K' (a.put o.dst undef) w)
 (h' : ∀ K' : Act → World → Prop, Shut (∀ a w, (j < m → S w) → ((j < m → S w) → lS P md ops Q S m fuel (listed.setIfInBounds j true) a w) → K' a w) → if Region.wanted o' (yielded ops a.tmps) = true then Oper.wp P o' a w K' Q else K' (a.put o'.dst undef) w) :
 lS P md ops Q S m (fuel + 1) listed a w :=
 ⟨fun h0 => absurd h0 (by rw [hr]; exact List.cons_ne_nil _ _), fun k hk => by
  rw [hr, List.mem_cons, List.mem_singleton] at hk
  rcases hk with hk | hk
  · rw [hk]; exact wpOp_step ho (fun K' hK => h K' (fun a w hS hW => hK a w ⟨hS, hW hS⟩))
  · rw [hk]; exact wpOp_step ho' (fun K' hK => h' K' (fun a w hS hW => hK a w ⟨hS, hW hS⟩))⟩
theorem dA {listed : Array Bool} {a : Act} {w : World} (hr : Region.ready md ops listed = []) (h : Q .normal a w) : ∀ fuel, lS P md ops Q S m fuel listed a w
 | 0 => ⟨hr, h⟩
 | _ + 1 => ⟨fun _ => h, fun i hi => absurd hi (by rw [hr]; exact List.not_mem_nil)⟩
theorem jB {id : Nat} {a : Act} {w : World} (hm : P.follows .mixedOrders = true) (hS : S w.drew)
 (h : S w.drew → lS P .any ops Q S m ops.size (Array.replicate ops.size false) a w.drew) : (Code.region id ops true).wp P Q a w :=
 wp_region_any hm (Uj _ _ _ _ (h hS))
def Ul (Q : Exit → Act → World → Prop) : Exit → Act → World → Prop
 | .outgrown, _, _ => False
 | e, a, w => Q e a w
theorem uw {a : Act} {w : World} (h : Q .normal a w) : Ul Q .normal a w := h
def Um (ops : Array Oper) : Bool := ops.all fun o => match o.op with | .defer _ => false | _ => true
theorem agK {j : Nat} {o : Oper} (h : Um ops = true) (ho : ops[j]? = some o) : ∀ c, o.op ≠ .defer c := fun c e => by
 have hm : o ∈ ops := Array.mem_of_getElem? ho
 have := Array.all_eq_true_iff_forall_mem.1 h o hm
 rw [e] at this
 exact Bool.noConfusion this
theorem Au {l n : Nat} (hd : Um ops = true) : ∀ (fuel : Nat) (listed : Array Bool) (a : Act) (w : World), wpAny P md ops (Ul Q) fuel listed a w → wpAnyIn (Fence.wide.inRound l) n P md ops Q fuel listed a w
 | 0, _, _, _, h => h
 | fuel + 1, listed, a, w, h => ⟨h.1, fun i hi => by
   have h1 := h.2 i hi
   unfold wpOp at h1
   unfold wpOpIn
   cases ho : ops[i]? with
   | none => rw [ho] at h1; exact Au hd fuel _ _ _ h1
   | some o =>
     rw [ho] at h1
     simp only at h1 ⊢
     by_cases hw : Region.wanted o (yielded ops a.tmps) = true
     · rw [if_pos hw] at h1 ⊢
       refine ⟨fun _ _ => trivial, ?_⟩
       rcases h1 with h1 | ⟨_, a', w', h1⟩
       · rw [Oper.semAt_eq _ _ _ (agK hd ho)]
         unfold Oper.wp at h1
         generalize (execOp a.eval o).run P w = r at h1
         cases r with
         | ok x w' =>
           cases x with
           | value v => exact Au hd fuel _ _ _ h1
           | skip => exact Au hd fuel _ _ _ h1
           | defer d => exact Au hd fuel _ _ _ h1
           | enter f args =>
             refine ⟨fun hh => Bool.noConfusion hh, CallsIn.inRound l (callsIn_wide.2 (Calls.mono h1 fun e w'' he => ?_))⟩
             cases e with
             | returned v => exact Au hd fuel _ _ _ he
             | panicked ch => exact he
             | outgrown => obtain ⟨_, _, hf⟩ := he; exact hf.elim
           | row nm args =>
             have h2 : RowsIn Fence.wide (n - 1) P nm args w' fun v w'' => wpAnyIn (Fence.wide.inRound l) n P md ops Q fuel (listed.setIfInBounds i true) (a.put o.dst v) w'' := fun c cs _ => by
              obtain ⟨v, w2, r, s⟩ := Rows.mono h1 (fun v w'' hh => Au hd fuel _ _ _ hh) c cs
              exact ⟨v, w2, r, stepsIn_wide.2 s⟩
             exact ⟨fun hh => Bool.noConfusion hh, h2⟩
           | _ => exact h1.elim
         | halt x w' =>
           cases x with
           | panic v => exact h1
           | _ => exact h1.elim
       · exact h1.elim
     · rw [if_neg hw] at h1 ⊢
       exact ⟨fun _ _ => trivial, Au hd fuel _ _ _ h1⟩⟩
theorem uy {id l n : Nat} {a : Act} {w : World} (hm : P.follows .mixedOrders = true) (hd : Um ops = true) (hS : S w.drew)
 (h : S w.drew → lS P .any ops (Ul Q) S m ops.size (Array.replicate ops.size false) a w.drew) : (Code.region id ops true).wpIn (Fence.wide.inRound l) n P Q a w :=
 wpIn_region_any hm (Au hd _ _ _ _ (Uj _ _ _ _ (h hS)))
end
end Go.Proofs.YtglbkbiphcgidaaDoor
