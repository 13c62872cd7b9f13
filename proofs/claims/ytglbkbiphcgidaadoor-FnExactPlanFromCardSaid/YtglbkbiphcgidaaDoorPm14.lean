import Derived.Test.YtglbkbiphcgidaaDoorPm10
import Derived.Test.YtglbkbiphcgidaaDoorPm13
namespace Go.Proofs.YtglbkbiphcgidaaDoor
section
open Go.RowKit Go.Shelf
theorem gain_holds {w : World} {b n nb pb kb q : Nat} {Ow Lv E Pd : Nat → Nat → Bool} {ah : List (List Int)} {O : List Int} {p : Nat → Int} {L S T : Nat → Bool} (hTb : dS w) (hR : dX w b n nb pb kb Ow Lv E Pd) (hM : dH w kb (gQ ah O p)) (hG : jC ah O n Ow E Pd)
 (hO : ∀ v, v < n → nth O v = 0 ∨ nth O v = 1) (hp : ∀ v, v < n → 0 ≤ p v) (hL : ∀ v, L v = true → v < n) (ht : fE ah L) (hs : yB ah L S) (hq : q < 1000) (hT : ∀ v, T v = true ↔ S v = true ∧ p v = (q : Int)) (hne : ∃ v, T v = true)
 (ih : ∀ J, (aU J 256).length < (aU S 256).length → (∀ v, J v = true → v < n) → fE ah J → BL ah O p b n nb pb kb Ow Lv E Pd J) :
 Calls Tryd.prog 131 #[.pointer (some ⟨b, 0, none⟩), aW S, .int .i64 (q : Int), aW T] w fun e w' => ∃ (who : Nat) (G : Nat → Bool), (e = .returned (.tuple #[.int .i64 (who : Int), aW G]) ∧ (who = 0 ∨ who = 1) ∧ ((∀ v, S v = true → p v ≤ (q : Int)) → ∃ s, dF ah O p L G (who : Int) s) ∧ (∃ v, G v = true) ∧ ∀ v, G v = true → L v = true) ∧ Only (fun k => k = kb ∨ w.heap.size ≤ k) w w' ∧ dH w' kb (gQ ah O p) := by
 have hn := hR.small
 have hin := hG.rows.eu
 have hlen := hG.len
 have hS : ∀ v, S v = true → v < n := fun v hv => hL v (hs.1 v hv)
 have sH : ∀ v, T v = true → S v = true := fun v hv => ((hT v).1 hv).1
 have Ph : ∀ v, v < ah.length → nth O v = 0 ∨ nth O v = 1 := fun v hv => hO v (by omega)
 have hp' : ∀ v, v < ah.length → 0 ≤ p v := fun v hv => hp v (by omega)
 have hL' : ∀ v, L v = true → v < ah.length := fun v hv => by have := hL v hv; omega
 have hrest : ∀ who : Int, (aU (aQ S (aN ah O who S T)) 256).length < (aU S 256).length ∧ (∀ v, aQ S (aN ah O who S T) v = true → v < n) ∧ fE ah (aQ S (aN ah O who S T)) := fun who => by
  obtain ⟨v, hv⟩ := hne
  have Vp := sH v hv
  have hvn := hS v Vp
  have ha : aN ah O who S T v = true := (qL hin (by omega)).2 ⟨Vp, .inl hv⟩
  refine ⟨wL (n := 256) (fun u _ hu => (eP.1 hu).1) (v := v) (by omega) Vp (not_true fun hh => ?_), fun u hu => hS u (eP.1 hu).1, CZ hin (hs.total ht)⟩
  have := (eP.1 hh).2
  rw [ha] at this
  cases this
 have hnone : ∀ {who bQ : Int}, lQ (dM ah O p (aQ S (aN ah O who S T)) bQ) = true → ∀ v, dM ah O p (aQ S (aN ah O who S T)) bQ v = false := fun {who bQ} h v => not_true fun hh => by
  have h1 := (eP.1 (NS hh)).1
  have h2 := uq.1 h v (by have := hS v h1; omega)
  rw [h2] at hh
  cases hh
 have hsome : ∀ {who bQ : Int}, lQ (dM ah O p (aQ S (aN ah O who S T)) bQ) = false → ∃ v, dM ah O p (aQ S (aN ah O who S T)) bQ v = true := fun {who bQ} h => by
  apply Classical.byContradiction
  intro hn
  have h2 := uq.2 fun v _ => not_true fun hh => hn ⟨v, hh⟩
  rw [h] at h2
  cases h2
 have Pj : ∃ v, S v = true := by
  obtain ⟨v, hv⟩ := hne
  exact ⟨v, sH v hv⟩
 have hcase : q % 2 = 0 ∨ q % 2 = 1 := by omega
 rcases hcase with h2 | h2
 · obtain ⟨r1, r2, r3⟩ := hrest 0
   refine (ahj hTb hR hM hG hq h2 hS sH (ih _ r1 r2 r3) (r := lQ (dM ah O p (aQ S (aN ah O 0 S T)) 1)) rfl).mono ?_
   rintro e w' ⟨rfl, ho, hm⟩
   cases hr : lQ (dM ah O p (aQ S (aN ah O 0 S T)) 1) with
   | true => exact ⟨0, S, ⟨rfl, .inl rfl, fun htop => aa0 hin Ph hp' (who := 0) (bQ := 1) (.inl ⟨rfl, rfl⟩) hL' ht hs hT htop (by omega) (hnone hr), Pj, hs.1⟩, ho, hm⟩
   | false => exact ⟨1, _, ⟨rfl, .inr rfl, fun _ => aa1 (T := T) hin Ph hp' (who := 0) (bQ := 1) (.inl ⟨rfl, rfl⟩) hL' ht hs, hsome hr, fun v hv => hs.1 v (eP.1 (NS hv)).1⟩, ho, hm⟩
 · obtain ⟨r1, r2, r3⟩ := hrest 1
   refine (ahn hTb hR hM hG hq h2 hS sH (ih _ r1 r2 r3) (r := lQ (dM ah O p (aQ S (aN ah O 1 S T)) 0)) rfl).mono ?_
   rintro e w' ⟨rfl, ho, hm⟩
   cases hr : lQ (dM ah O p (aQ S (aN ah O 1 S T)) 0) with
   | true => exact ⟨1, S, ⟨rfl, .inr rfl, fun htop => aa0 hin Ph hp' (who := 1) (bQ := 0) (.inr ⟨rfl, rfl⟩) hL' ht hs hT htop (by omega) (hnone hr), Pj, hs.1⟩, ho, hm⟩
   | false => exact ⟨0, _, ⟨rfl, .inl rfl, fun _ => aa1 (T := T) hin Ph hp' (who := 1) (bQ := 0) (.inr ⟨rfl, rfl⟩) hL' ht hs, hsome hr, fun v hv => hs.1 v (eP.1 (NS hv)).1⟩, ho, hm⟩
end
end Go.Proofs.YtglbkbiphcgidaaDoor
namespace Go.Proofs.YtglbkbiphcgidaaDoor
section
open Go.RowKit Go.Shelf
attribute [local go_sem] Oper.semAt_some
def iw (n : Nat) : List (Fin n) := (List.finRange n).reverse
theorem Pm (n : Nat) : (iw n).length = n := by unfold iw; simp
theorem Vq {n k : Nat} (h : k < (iw n).length) : ((iw n)[k]).1 + 1 + k = n := by
 have h1 := h
 rw [Pm] at h1
 have e : (iw n)[k] = (List.finRange n)[(List.finRange n).length - 1 - k]'(by simp; omega) := List.getElem_reverse _
 rw [e]
 simp
 omega
def JU {n : Nat} (E : Nat → Nat → Bool) (x : Fin n) : Array Value := #[.int .i64 (x.1 : Int), aW (E x.1)]
def oK (T : Nat → Prop) (W W' : World) : Prop := ∀ k, T k → W'.heap[k]? = W.heap[k]?
theorem oK.refl (T : Nat → Prop) (W : World) : oK T W W := fun _ _ => rfl
theorem oK.trans {T : Nat → Prop} {A B C : World} (h : oK T A B) (k : oK T B C) : oK T A C := fun i hi => (k i hi).trans (h i hi)
theorem oK.cell {T : Nat → Prop} {W W' : World} (h : oK T W W') {p : Addr} (hp : T p.block) : W'.cell? p = W.cell? p := World.cell?_of_block (h _ hp)
theorem ahB {T : Nat → Prop} {w : World} (hT : ∀ k, T k → k < w.heap.size) (W : World) (l : Nat) (o o' : Obj) (hl : w.heap.size ≤ l) (_ : W.heap[l]? = some o) (_ : o.isCells = false) (_ : o.isWalk = false) : oK T W (W.putObj l o') :=
 fun k hk => World.putObj_heap_other (by have := hT k hk; omega)
set_option maxRecDepth 100000 in
set_option maxHeartbeats 4000000 in
theorem ahC (F : Fence) (m : Nat) (hF : F.fn 155) (hro : F.round = none) (hm : 1 ≤ m) (T : Nat → Prop) (l Bs b off cap n : Nat) (E : Nat → Nat → Bool) (hn : n ≤ 256) (hb : T b) (J Jx : List (Fin n) → World → Prop)
 (hY : ∀ pre x W, J pre W → pre.length < n → YieldAt F (m - 1) Tryd.prog l (JU E x) W fun e W' =>
  (e = .returned (.bool true) ∧ J (pre ++ [x]) W' ∧ oK T W W') ∨ (e = .returned (.bool false) ∧ Jx (pre ++ [x]) W'))
 (W : World) (hBs : W.cell? ⟨Bs, 0, none⟩ = some (.slice (some ⟨b, off, none⟩) n cap)) (hc : iL W b off n E) (hBn : T Bs) (h0 : J [] W) :
 CallsIn F m Tryd.prog 155 #[.func (.yield l) #[] #[], .pointer (some ⟨Bs, 0, none⟩)] W fun e W' => (∃ v, e = .returned v) ∧
  ((∃ ys, ys = iw n ∧ J ys W') ∨ (∃ pre, (∃ k, k ≤ n ∧ pre = (iw n).take k) ∧ Jx pre W')) := by
 refine callsIn_of_wp Tryd.func155 rfl hF ?_ hro
 simp only [Tryd.ntmps155, List.size_toArray, List.length_cons, List.length_nil, Nat.reduceAdd, Nat.reduceSub, Array.replicate_succ, Array.replicate_zero, List.push_toArray, List.append_toArray, List.nil_append, List.cons_append]
 gi_wp2
 gi_loopw [3] (fun i wr => ∃ k q : Nat, k + q = n ∧ i = .int .i64 ((q : Int) - 1) ∧ J ((iw n).take k) wr ∧ oK T W wr)
  (fun i _ => (intOf i + 1).toNat)
 case atStart => exact ⟨0, n, by omega, by go_num, by simpa using h0, oK.refl _ _⟩
 case round =>
  obtain ⟨k, q, hk, rfl, hJs, hnx⟩ := hrel
  have hBr : wr.cell? ⟨Bs, 0, none⟩ = some (.slice (some ⟨b, off, none⟩) n cap) := (hnx.cell (p := ⟨Bs, 0, none⟩) hBn).trans hBs
  cases q with
  | zero =>
    obtain rfl : k = n := by omega
    rw [show ((0 : Nat) : Int) - 1 = -1 from rfl]
    gi_wp2
    go_end0
    have e1 : (iw k).take k = iw k := by
     have h := Pm k
     rw [show (iw k).take k = (iw k).take (iw k).length by rw [h], List.take_length]
    exact ⟨⟨_, rfl⟩, .inl ⟨_, e1, hJs⟩⟩
  | succ j =>
    rw [show (((j + 1 : Nat) : Int) - 1) = (j : Int) by omega]
    have hcj : ∀ i, i < 4 → wr.cell? ⟨b, off + j * 4 + i, none⟩ = some (.int .u64 (aj (E j) i)) := fun i hi => (hnx.cell (p := ⟨b, off + j * 4 + i, none⟩) hb).trans (hc j (by omega) i hi)
    have c0 := hcj 0 (by omega)
    have c1 := hcj 1 (by omega)
    have c2 := hcj 2 (by omega)
    have c3 := hcj 3 (by omega)
    rw [Nat.add_zero] at c0
    have hkl : k < (iw n).length := by rw [Pm]; omega
    have p1 := Vq hkl
    have e1 : ((iw n)[k]).1 = j := by omega
    have Ar := hY _ ((iw n)[k]) wr hJs (by rw [List.length_take]; omega)
    unfold JU at Ar
    rw [e1] at Ar
    have htk : (iw n).take (k + 1) = (iw n).take k ++ [(iw n)[k]] := by rw [List.take_add_one, List.getElem?_eq_getElem hkl]; rfl
    rw [← htk] at Ar
    have HT := Lib.hid htk
    clear p1 e1 htk hcj
    obtain ⟨fn, tmps, assign, body, hy, hR⟩ := Ar
    have hj : (j : Int) < n := by omega
    gi_wp2
    refine hR.mono ?_
    rintro e W3 (⟨rfl, hJ3, hk3⟩ | ⟨rfl, hJx3⟩)
    · gi_wp2
      go_roundw
      case rel => exact ⟨k + 1, j, by omega, by first | rfl | go_num, hJ3, hnx.trans hk3⟩
      case measure => simp [intOf]
    · gi_wp2
      refine bodyPost_ret (results_none rfl _ _ _) rfl ?_
      exact ⟨⟨_, rfl⟩, .inr ⟨_, ⟨k + 1, by omega, rfl⟩, hJx3⟩⟩
set_option maxHeartbeats 1000000 in
theorem ahD (a : Option Addr) (len cap : Nat) (w : World) :
 Calls Tryd.prog 130 #[.slice a len cap] w fun e w' => e = .returned (.func (.func 155) #[] #[.pointer (some ⟨w.heap.size, 0, none⟩)]) ∧ w' = w.alloc (.cells #[.slice a len cap] 125) := by
 go_enter Tryd.func130, Tryd.ntmps130
 go_wp2
 go_ret
 exact ⟨rfl, rfl⟩
theorem ahE (m : Nat) (hm : 1 ≤ m) (T : Nat → Prop) (Bs b off cap n : Nat) (E : Nat → Nat → Bool) (hn : n ≤ 256) (w : World) (hBs : T Bs) (hb : T b) (hBw : Bs < w.heap.size) (hbw : b < w.heap.size)
 (hc : w.cell? ⟨Bs, 0, none⟩ = some (.slice (some ⟨b, off, none⟩) n cap)) (hI : iL w b off n E) :
 SeqStopsK Fence.wide m Tryd.prog 155 #[.pointer (some ⟨Bs, 0, none⟩)] (JU E) (oK T) (fun ys => ys = iw n)
  (fun pre => ∃ k, k ≤ n ∧ pre = (iw n).take k) n w := fun l J Jx W hW _ _ hY h0 => by
 have hc' := (hW.cell (p := ⟨Bs, 0, none⟩) hBw).trans hc
 exact ahC Fence.wide m trivial rfl hm T l Bs b off cap n E hn hb J Jx hY W hc' (fun u hu j hj => (hW.cell (p := ⟨b, _, none⟩) hbw).trans (hI u hu j hj)) hBs h0
end
end Go.Proofs.YtglbkbiphcgidaaDoor
namespace Go.Proofs.YtglbkbiphcgidaaDoor
section
open Go.RowKit Go.Shelf
def ahF {n : Nat} (C : Nat → Prop) (R : List (Fin n) → World → Prop) (Rx : Code → List (Fin n) → World → Prop) (xs : List (Fin n)) (W : World) : Exit → Act → World → Prop
 | .normal, _, W' => Only (fun k => C k ∨ W.heap.size ≤ k) W W' ∧ R xs W'
 | .ret, _, W' => Only (fun k => C k ∨ W.heap.size ≤ k) W W' ∧ Rx .ret xs W'
 | .exit id, _, W' => Only (fun k => C k ∨ W.heap.size ≤ k) W W' ∧ Rx (.exit id) xs W'
 | _, _, _ => False
abbrev xA (K : Nat → Bool) : Obj := .cells #[.int .u64 (aj K 0), .int .u64 (aj K 1), .int .u64 (aj K 2), .int .u64 (aj K 3)] 69
theorem ahG {n k : Nat} {pre : List (Fin n)} {x : Fin n} (h : pre ++ [x] = (iw n).take k) (m : Fin n) (hm : x.1 < m.1) : m ∈ pre := by
 have hl := Pm n
 have hlen : pre.length + 1 = min k n := by
  have := congrArg List.length h
  simp [hl] at this
  omega
 have hx : (pre ++ [x])[pre.length]? = some x := by simp
 rw [h, List.getElem?_take] at hx
 split at hx
 · obtain ⟨hb, e⟩ := List.getElem?_eq_some_iff.1 hx
   have h1 := Vq hb
   rw [e] at h1
   have hi : n - 1 - m.1 < (iw n).length := by rw [hl]; omega
   have h2 := Vq hi
   have e2 : (iw n)[n - 1 - m.1] = m := Fin.ext (by omega)
   have h3 : (pre ++ [x])[n - 1 - m.1]? = some m := by
    rw [h, List.getElem?_take, if_pos (by omega), List.getElem?_eq_getElem hi, e2]
   rw [List.getElem?_append_left (by omega)] at h3
   exact List.mem_of_getElem? h3
 · cases hx
theorem ahH {w : World} {Bs b off cap n : Nat} {E : Nat → Nat → Bool} {g : Operand} {ps : Array Tmp} {assign body : Code} {Q : Exit → Act → World → Prop} {a : Act}
 (hg : a.eval g = .func (.func 155) #[] #[.pointer (some ⟨Bs, 0, none⟩)]) (hn : n ≤ 256) (hBw : Bs < w.heap.size) (hbw : b < w.heap.size)
 (hc : w.cell? ⟨Bs, 0, none⟩ = some (.slice (some ⟨b, off, none⟩) n cap)) (hE : iL w b off n E) (hps : ps.size = 2)
 (C : Nat → Prop) (hC : ∀ k, C k → k < w.heap.size ∧ k ≠ Bs ∧ k ≠ b)
 (R : List (Fin n) → World → Prop) (Rx : Code → List (Fin n) → World → Prop)
 (hR : ∀ pre A A', R pre A → Only (fun k => w.heap.size ≤ k) A A' → R pre A')
 (DC : ∀ c pre A A', Rx c pre A → Only (fun k => w.heap.size ≤ k) A A' → Rx c pre A')
 (h0 : R [] w) (fr : Fin n → Nat → Act)
 (hassign : ∀ (l : Nat) (x : Fin n) (W : World) (gl : Nat) (K : Act → World → Prop), W.heap.size = gl → K (fr x gl) (W.alloc (xA (E x.1))) →
  assign.wpIn (Fence.wide.inRound l) 2 Tryd.prog (Exit.then K (fun _ _ _ => False)) { tmps := (ps.zip (JU E x)).foldl (fun t (p, v) => t.setIfInBounds p v) a.tmps, defers := [] } W)
 (hbody : ∀ (l : Nat) (pre : List (Fin n)) (x : Fin n) (W : World) (gl : Nat), R pre W → Only (fun k => C k ∨ w.heap.size ≤ k) w W → w.heap.size ≤ gl → aH W gl (E x.1) → body.wpIn (Fence.wide.inRound l) 2 Tryd.prog (ahF C R Rx (pre ++ [x]) W) (fr x gl) W)
 (hdone : ∀ (D : Nat) (W : World), w.heap.size ≤ D → R (iw n) W → Only (fun k => C k ∨ w.heap.size ≤ k) w W → W.heap[D]? = some (.deferred (some [])) → Q .normal { a with defers := { target := .collected D, args := #[] } :: a.defers } W)
 (hstop : ∀ (D : Nat) (c : Code) (pre : List (Fin n)) (W : World), w.heap.size ≤ D → (∃ k, k ≤ n ∧ pre = (iw n).take k) → Rx c pre W → Only (fun k => C k ∨ w.heap.size ≤ k) w W → W.heap[D]? = some (.deferred (some [])) → c.wp Tryd.prog Q { a with defers := { target := .collected D, args := #[] } :: a.defers } W) :
 (Code.rangeFunc g ps assign body).wp Tryd.prog Q a w := by
 have keep : ∀ {W W' : World}, Only (fun k => C k ∨ w.heap.size ≤ k) w W → Only (fun k => C k ∨ W.heap.size ≤ k) W W' → KeepsFrom w.heap.size W W' ∧ oK (fun k => k = Bs ∨ k = b) W W' ∧ Only (fun k => C k ∨ w.heap.size ≤ k) w W' := fun {W W'} ho hk => by
  have hs := ho.size
  refine ⟨⟨hk.size, fun k o hBk hok _ => (hk.block k (Array.getElem?_eq_some_iff.1 hok).1 fun hh => ?_).trans hok⟩, fun k hkT => hk.block _ (by omega) fun hh => ?_, ho.trans (hk.mono fun k hh => hh.imp id fun h => by omega)⟩
  · rcases hh with hh | hh
    · have := (hC k hh).1; omega
    · have := (Array.getElem?_eq_some_iff.1 hok).1; omega
  · rcases hh with hh | hh
    · have := hC _ hh; omega
    · omega
 have grow : ∀ {A A' : World} {row : Option Nat}, A.grownBy A' row → (∀ r, row = some r → w.heap.size ≤ r ∧ ∃ o : Obj, A.heap[r]? = some o ∧ o.isCells = false) → Only (fun k => w.heap.size ≤ k) A A' := fun hg hr => (Only.dV hg).mono fun k hk => (hr k hk).1
 refine (wpIn_wide (n := 4)).1 ?_
 refine wpIn_rangeFunc_ownH (n := 4) rfl (by omega) (gf := 155) (lb := #[.pointer (some ⟨Bs, 0, none⟩)]) hg trivial (enters_of Tryd.func155 (by kernel_rfl) rfl)
  (ahE 3 (by omega) (fun k => k = Bs ∨ k = b) Bs b off cap n E hn w (.inl rfl) (.inr rfl) hBw hbw hc hE) oK.trans (ahB fun k hk => by omega) (Below.refl _ _) (fun _ => hps.symm)
  (fun pre W => R pre W ∧ Only (fun k => C k ∨ w.heap.size ≤ k) w W) (fun c pre W => Rx c pre W ∧ Only (fun k => C k ∨ w.heap.size ≤ k) w W)
  (fun pre A A' row hs hg hr => ⟨hR pre A A' hs.1 (grow hg hr), hs.2.trans ((grow hg hr).mono fun k hk => .inr hk)⟩)
  (fun c pre A A' row hs hg hr => ⟨DC c pre A A' hs.1 (grow hg hr), hs.2.trans ((grow hg hr).mono fun k hk => .inr hk)⟩)
  ⟨h0, Only.refl _ _⟩ (fun x a' W => ∃ gl, a' = fr x gl ∧ w.heap.size ≤ gl ∧ aH W gl (E x.1)) ?Ax ?assign ?body (fun D xs W hD hS hi hK => by subst hS; exact hdone D W hD hi.1 hi.2 hK) (fun D c pre W hD hS hi hK => wpIn_wide.2 (hstop D c pre W hD hS hi.1 hi.2 hK))
 case Ax =>
  intro x a' _ A A' row hs hg hr
  obtain ⟨gl, h1, h2, h3⟩ := hs
  refine ⟨gl, h1, h2, (hg.block gl h3.lt fun e => ?_).trans h3⟩
  obtain ⟨_, o, ho, hc⟩ := hr gl e.symm
  unfold aH at h3
  rw [h3] at ho
  cases ho
  cases hc
 case assign =>
  intro l pre x W K hi hK
  have hal : Only (fun k => w.heap.size ≤ k) W (W.alloc (xA (E x.1))) := Only.of_below (aA _ _)
  have hs := hi.2.size
  refine hassign l x W _ K rfl (hK _ _ ⟨hal.size, fun k o hBk hok _ => ?_⟩ (fun k hkT => (aA W _).block k (by omega)) ⟨hR _ _ _ hi.1 hal, hi.2.trans (hal.mono fun k hk => .inr hk)⟩ ⟨_, rfl, hs, aH.new _ _⟩)
  exact ((aA W _).block k (Array.getElem?_eq_some_iff.1 hok).1).trans hok
 case body =>
  intro l pre x a' W _ _ hi hA _
  obtain ⟨gl, rfl, hgl, hM⟩ := hA
  refine wpIn_mono (hbody l pre x W gl hi.1 hi.2 hgl hM) ?_
  intro e a3 W3 hp
  cases e with
  | normal =>
    obtain ⟨ho, hr⟩ := hp
    obtain ⟨k1, k2, k3⟩ := keep hi.2 ho
    exact ⟨k1, k2, hr, k3⟩
  | ret =>
    obtain ⟨ho, hr⟩ := hp
    obtain ⟨k1, k2, k3⟩ := keep hi.2 ho
    exact ⟨k1, hr, k3⟩
  | exit id =>
    obtain ⟨ho, hr⟩ := hp
    obtain ⟨k1, k2, k3⟩ := keep hi.2 ho
    exact ⟨k1, hr, k3⟩
  | goto t => exact hp.elim
  | panic ch => exact hp.elim
  | outgrown => exact hp.elim
end
end Go.Proofs.YtglbkbiphcgidaaDoor
