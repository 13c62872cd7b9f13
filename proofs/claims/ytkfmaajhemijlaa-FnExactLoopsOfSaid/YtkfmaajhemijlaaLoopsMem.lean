/-
  Memory words for the second pass: a world cut off, rows that lie in blocks of their own.
-/
import Derived.Test.YtkfmaajhemijlaaLoopsInv
namespace Go.Proofs.Ytkfmaajhemijlaa
open Go.RowKit

/-- The first m blocks alone. -/
def cutAt (W : World) (m : Nat) : World := { W with heap := W.heap.extract 0 m }
theorem cutAt_size {W : World} {m : Nat} (h : m ≤ W.heap.size) : (cutAt W m).heap.size = m := by simp [cutAt]; omega
theorem cutAt_block {W : World} {m k : Nat} (hk : k < m) : (cutAt W m).heap[k]? = W.heap[k]? := by
  simp only [cutAt, Array.getElem?_extract]
  split
  · simp
  · next h => rw [eq_comm, Array.getElem?_eq_none_iff]; omega
theorem cutAt_below {W : World} {m : Nat} (h : m ≤ W.heap.size) : Below (cutAt W m).heap.size (cutAt W m) W :=
  ⟨rfl, rfl, rfl, by rw [cutAt_size h]; exact h, fun k hk => (cutAt_block (by rw [cutAt_size h] at hk; exact hk)).symm⟩

theorem IntsAt.move {P : Nat → Prop} {w w' : World} {a : Option Addr} {zs : List Int} (h : IntsAt w a zs) (hb : ∀ b, P b → w'.heap[b]? = w.heap[b]?) (ha : ∀ b off, a = some ⟨b, off, none⟩ → P b) : IntsAt w' a zs :=
  ⟨h.len, h.fits, fun h0 => by
    obtain ⟨b, off, he, hc⟩ := h.cell h0
    exact ⟨b, off, he, fun k hk => (World.cell?_of_block (hb b (ha b off he))).trans (hc k hk)⟩⟩
theorem RowsAt.move {P : Nat → Prop} {w w' : World} {a : Option Addr} {A : Nat → Option Addr} {C : Nat → Nat} {zss : List (List Int)} (h : RowsAt w a A C zss) (hb : ∀ b, P b → w'.heap[b]? = w.heap[b]?) (ha : ∀ b off, a = some ⟨b, off, none⟩ → P b)
    (hA : ∀ k, k < zss.length → ∀ b off, A k = some ⟨b, off, none⟩ → P b) : RowsAt w' a A C zss :=
  ⟨h.len, fun h0 => by
    obtain ⟨b, off, he, hc⟩ := h.cell h0
    exact ⟨b, off, he, fun k hk => (World.cell?_of_block (hb b (ha b off he))).trans (hc k hk)⟩, fun k hk => (h.rows k hk).move hb (hA k hk)⟩

theorem addr_block {w : World} {B e size n : Nat} {v : Value} {xs : List Value} (h : w.ownsRow B e size v n xs) {b off : Nat} (ha : addrOf v = some ⟨b, off, none⟩) : B ≤ b ∧ b < w.heap.size := by
  rcases h.2 with ⟨rfl, _⟩ | ⟨g, cap, cur, rfl, hg, hgb, _⟩
  · simp [addrOf] at ha
  · have : g = b := by simp [addrOf] at ha; exact ha.1
    subst this
    exact ⟨hg, (Array.getElem?_eq_some_iff.1 hgb).1⟩

/-- The rows that preds leaves read as rows, in blocks of their own. -/
theorem RowSet.rowsAt {w : World} {B g n : Nat} {V : Nat → Value} {R : Nat → List Int} (h : RowSet w B g n V R) (hn : n ≤ 17592186044416) :
    RowsAt w (some ⟨g, 0, none⟩) (fun k => addrOf (V k)) (fun k => capOf (V k)) (rowsOf n R) ∧ (B ≤ g ∧ g < w.heap.size) ∧ ∀ k, k < n → ∀ b off, addrOf (V k) = some ⟨b, off, none⟩ → B ≤ b ∧ b < w.heap.size := by
  have hl := rowsOf_len n R
  refine ⟨⟨by omega, fun _ => ⟨g, 0, rfl, fun k hk => ?_⟩, fun k hk => ?_⟩, addr_block h.own rfl, fun k hk b off ha => addr_block (h.rows k hk).own ha⟩
  · rw [hl] at hk
    obtain ⟨a, cap, hv, _, _⟩ := (h.rows k hk).shape
    rw [rowsOf_row hk, Nat.zero_add, h.own.cellAt k (by omega)]
    simp [hk, hv, addrOf, capOf]
  · rw [hl] at hk
    obtain ⟨a, cap, hv, hi, _⟩ := (h.rows k hk).shape
    rw [rowsOf_row hk, hv]
    exact hi

/-- The pairs that slices.Backward hands on. -/
theorem back_ex {n : Nat} : ∀ (l : List Int), (∀ x ∈ l, ∃ u : Nat, x = (u : Int) ∧ u < n) → ∃ ps : List (Nat × Fin n), BackP ps l.reverse ∧ ps.map (fun x => ((x.2.val : Nat) : Int)) = l
  | [], _ => ⟨[], ⟨rfl, fun k h => absurd h (by simp)⟩, rfl⟩
  | x :: l, h => by
    obtain ⟨ps, hp, hm⟩ := back_ex (n := n) l (fun y hy => h y (List.mem_cons_of_mem _ hy))
    obtain ⟨u, hu, hlt⟩ := h x (List.mem_cons_self ..)
    refine ⟨(l.length, ⟨u, hlt⟩) :: ps, ⟨by simp [hp.len], fun k hk => ?_⟩, by simp [hm, hu]⟩
    have hpl : ps.length = l.length := by rw [hp.len, List.length_reverse]
    cases k with
    | zero =>
      refine ⟨by simp, ?_⟩
      simp [nth, hu]
    | succ k =>
      have hk' : k < ps.length := by simpa using hk
      obtain ⟨e1, e2⟩ := hp.at_ k hk'
      rw [List.length_reverse] at e1
      refine ⟨by simp; omega, ?_⟩
      rw [List.getElem_cons_succ, e2]
      have hlt2 : (ps[k]).1 < l.reverse.length := by rw [List.length_reverse]; omega
      rw [List.reverse_cons]
      unfold nth
      rw [List.getD_eq_getElem?_getD, List.getD_eq_getElem?_getD, List.getElem?_append_left hlt2]

theorem follow_at {w0 : World} {an : Option Addr} {A : Nat → Option Addr} {C : Nat → Nat} {cn n : Nat} {zss : List (List Int)} {p bo B : Nat} (hlen : zss.length = n) (hN : RowsAt w0 an A C zss) (hn : zss.length ≤ 256) (hl : ∀ u, u < zss.length → (row zss u).length ≤ 256)
    (hin : ∀ u : Nat, u < zss.length → ∀ x ∈ row zss u, ∃ v : Nat, x = (v : Int) ∧ v < zss.length) (hp : w0.heap.size ≤ p) (hbo : w0.heap.size ≤ bo) (hpB : p < B) (hboB : bo < B) (hne : p ≠ bo)
    (f : Nat) (w : World) (vl : Value) (o : Nat → Bool) (v : Nat) (hv : v < n) (ho : opens o n < f) (hB : B ≤ w.heap.size) (hw : Below w0.heap.size w0 w) (hc : Cur w p bo B n (.slice an n cn) vl o []) :
      Calls Try.prog 33 #[.pointer (some ⟨p, 0, none⟩), .int .i64 v] w fun e w' => e = .returned (.tuple #[]) ∧
        (∃ vl', Cur w' p bo B n (.slice an n cn) vl' (dfs zss f o v).1 (dfs zss f o v).2) ∧ Only (fun b => b = p ∨ b = bo ∨ B ≤ b) w w' := by
  subst hlen
  have h := opens_le o zss.length
  exact follow_is hN hn hl hin hp hbo hpB hboB hne f w vl o [] v hv ho (by simp; omega) hB hw hc

theorem boxed_below {W W' : World} {g : Nat} {t : TypeId} {v : Value} (h : Boxed W g t v) (hb : Below W.heap.size W W') : Boxed W' g t v := (hb.block _ h.lt).trans h
theorem box2_only {S : Nat → Prop} {W W' : World} {g : Nat} {t : TypeId} {u v : Value} (h : Box2 W g t u v) (hk : Only S W W') (hs : ¬ S g) : Box2 W' g t u v := (hk.block _ h.lt hs).trans h

/-- The vertices that have come. -/
def valsOf {n : Nat} (pre : List (Nat × Fin n)) : List Int := pre.map fun x => ((x.2.val : Nat) : Int)
theorem valsOf_snoc {n : Nat} (pre : List (Nat × Fin n)) (x : Nat × Fin n) : valsOf (pre ++ [x]) = valsOf pre ++ [((x.2.val : Nat) : Int)] := by simp [valsOf]

end Go.Proofs.Ytkfmaajhemijlaa
