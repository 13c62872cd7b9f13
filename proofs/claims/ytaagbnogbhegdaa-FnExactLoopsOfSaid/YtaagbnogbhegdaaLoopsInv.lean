/-
  What the program's LoopsOf has between two rounds of its second pass.
-/
import Derived.Test.YtaagbnogbhegdaaBackward
import Derived.Test.YtaagbnogbhegdaaKosa
import Derived.Test.YtaagbnogbhegdaaBase1
import Derived.RangeFuncWrites
namespace Go.Proofs.Ytaagbnogbhegdaa
open Go.RowKit

/-- The blocks of S are cells. -/
def CellsOf (S : Nat → Prop) (W : World) : Prop := ∀ k o, S k → W.heap[k]? = some o → o.isCells = true

theorem keeps_only {S : Nat → Prop} {W W' : World} (h : Only S W W') (hc : CellsOf S W) : KeepsOthers W W' :=
  ⟨h.size, fun k o hk ho => (h.block k (Array.getElem?_eq_some_iff.1 hk).1 (fun hs => by rw [hc k o hs hk] at ho; cases ho)).trans hk⟩

theorem rowIs_cells {w : World} {g n : Nat} {t : TypeId} {f : Nat → Value} (h : w.rowIs g t n f) : ∃ o : Obj, w.heap[g]? = some o ∧ o.isCells = true := by
  obtain ⟨c, hc, _⟩ := h
  exact ⟨_, hc, rfl⟩
theorem ownsRow_cells {w : World} {B size n : Nat} {e : TypeId} {v : Value} {xs : List Value} (h : w.ownsRow B e size v n xs) {g : Nat} (hg : v.ownBlock = some g) : ∃ o : Obj, w.heap[g]? = some o ∧ o.isCells = true := by
  rcases h.2 with ⟨rfl, _⟩ | ⟨g', cap, cur, rfl, _, hgb, _⟩
  · simp [Value.ownBlock] at hg
  · obtain rfl : g' = g := by simpa [Value.ownBlock] using hg
    exact ⟨_, hgb, rfl⟩
theorem boxed_cells {w : World} {g : Nat} {t : TypeId} {v : Value} (h : Boxed w g t v) : ∃ o : Obj, w.heap[g]? = some o ∧ o.isCells = true := ⟨_, h, rfl⟩
theorem isCells_of {W : World} {k : Nat} {o : Obj} (h : ∃ o : Obj, W.heap[k]? = some o ∧ o.isCells = true) (ho : W.heap[k]? = some o) : o.isCells = true := by
  obtain ⟨o', h1, h2⟩ := h
  rw [ho] at h1; cases h1; exact h2

theorem Only.later {S T : Nat → Prop} {a b c : World} (h : Only S a b) (k : Only T b c) (hT : ∀ i, T i → S i ∨ a.heap.size ≤ i) : Only S a c :=
  ⟨k.os.trans h.os, k.tape.trans h.tape, k.output.trans h.output, Nat.le_trans h.size k.size, fun i hi hs => (k.block i (Nat.lt_of_lt_of_le hi h.size) (fun ht => by rcases hT i ht with h1 | h1 <;> first | exact hs h1 | omega)).trans (h.block i hi hs)⟩

theorem boxed_only {S : Nat → Prop} {W W' : World} {g : Nat} {t : TypeId} {v : Value} (h : Boxed W g t v) (hk : Only S W W') (hs : ¬ S g) : Boxed W' g t v := (hk.block g h.lt hs).trans h

theorem Cur.only {w w' : World} {S : Nat → Prop} {p bo B n : Nat} {sn : Value} {o : Nat → Bool} (h : Cur w p bo B n sn (.slice none 0 0) o []) (hk : Only S w w') (hp : ¬ S p) (hb : ¬ S bo) : Cur w' p bo B n sn (.slice none 0 0) o [] :=
  ⟨rowIs_only h.str hk hp, rowIs_only h.opn hk hb, World.ownsRow_nil _ _ _ _⟩
theorem Cur.rebase {w : World} {p bo B n : Nat} {sn : Value} {o : Nat → Bool} (h : Cur w p bo B n sn (.slice none 0 0) o []) (B' : Nat) : Cur w p bo B' n sn (.slice none 0 0) o [] :=
  ⟨h.str, h.opn, World.ownsRow_nil _ _ _ _⟩

/-- Between two rounds: the rows so far are own, the cursor has left nothing behind. -/
structure KI (W5 : World) (b8 pb bo n : Nat) (sn : Value) (R : List (List Int)) (o : Nat → Bool) (W : World) : Prop where
  rows : ∃ uu V, Boxed W b8 25 uu ∧ OwnRows W W5.heap.size W.heap.size uu V R
  cur : Cur W pb bo W5.heap.size n sn (.slice none 0 0) o []
  only : Only (fun b => b = b8 ∨ b = pb ∨ b = bo) W5 W

theorem KI.grown {W5 W W' : World} {b8 pb bo n : Nat} {sn : Value} {R : List (List Int)} {o : Nat → Bool} {row : Option Nat} (h : KI W5 b8 pb bo n sn R o W) (hg : W.grownBy W' row)
    (hr : ∀ r, row = some r → W5.heap.size ≤ r ∧ ∃ ob : Obj, W.heap[r]? = some ob ∧ ob.isCells = false) : KI W5 b8 pb bo n sn R o W' := by
  obtain ⟨⟨uu, V, h1, h2⟩, h3, h4⟩ := h
  have hO := Only.of_grown hg
  have hn : ∀ g, (∃ ob : Obj, W.heap[g]? = some ob ∧ ob.isCells = true) → ¬ row = some g := fun g hc e => by
    obtain ⟨_, ob, ho, hf⟩ := hr g e
    rw [isCells_of hc ho] at hf; cases hf
  refine ⟨⟨uu, V, boxed_only h1 hO (hn _ (boxed_cells h1)), (h2.only hO (fun g hg => hn g (ownsRow_cells h2.own hg)) (fun k hk g hg => hn g (ownsRow_cells (h2.rows k hk).own hg))).retop⟩, h3.only hO (hn _ (rowIs_cells h3.str)) (hn _ (rowIs_cells h3.opn)), h4.later hO fun i hi => .inr (hr i hi).1⟩

theorem KI.own {β : Type} {W5 : World} {b8 pb bo n : Nat} {sn : Value} (R : β → List (List Int)) (o : β → Nat → Bool) : OwnFrom W5.heap.size fun (s : β) W => KI W5 b8 pb bo n sn (R s) (o s) W :=
  fun _ _ _ _ hs hg hr => hs.grown hg hr

/-- The blocks that a round turns. -/
def Turns (b8 pb bo : Nat) (uu : Value) : Nat → Prop := fun b => b = b8 ∨ b = pb ∨ b = bo ∨ uu.ownBlock = some b

theorem KI.cells {W5 W : World} {b8 pb bo n : Nat} {sn uu : Value} {R : List (List Int)} {o : Nat → Bool} {V : Nat → Value} (h : KI W5 b8 pb bo n sn R o W) (h1 : Boxed W b8 25 uu) (h2 : OwnRows W W5.heap.size W.heap.size uu V R) : CellsOf (Turns b8 pb bo uu) W := by
  rintro k o' (rfl | rfl | rfl | hk) ho
  · exact isCells_of (boxed_cells h1) ho
  · exact isCells_of (rowIs_cells h.cur.str) ho
  · exact isCells_of (rowIs_cells h.cur.opn) ho
  · exact isCells_of (ownsRow_cells h2.own hk) ho

theorem stay_only {T S : Nat → Prop} {W W' : World} (h : Only S W W') (hT : ∀ k, T k → k < W.heap.size ∧ ¬ S k) : Stay T W W' := fun k hk => h.block k (hT k hk).1 (hT k hk).2

/-- A round that appends nothing. -/
theorem KI.no {T : Nat → Prop} {W5 W Wa Wb : World} {b8 pb bo n : Nat} {sn vl' : Value} {R : List (List Int)} {o o' : Nat → Bool} {part : List Int} (h : KI W5 b8 pb bo n sn R o W) (_hb8 : b8 < W5.heap.size) (hpb : pb < W5.heap.size) (hbo : bo < W5.heap.size) (h8p : b8 ≠ pb) (h8b : b8 ≠ bo) (hT : ∀ k, T k → k < W5.heap.size ∧ k ≠ b8 ∧ k ≠ pb ∧ k ≠ bo)
    (_ha : Cur Wa pb bo W.heap.size n sn vl' o' part) (hoa : Only (fun b => b = pb ∨ b = bo ∨ W.heap.size ≤ b) W Wa) (hb : Cur Wb pb bo W.heap.size n sn (.slice none 0 0) o' []) (hob : Only (fun b => b = pb) Wa Wb) :
    KI W5 b8 pb bo n sn R o' Wb ∧ KeepsOthers W Wb ∧ Stay T W Wb := by
  obtain ⟨uu, V, h1, h2⟩ := h.rows
  have hsz := h.only.size
  have h0 : Only (fun b => b = pb ∨ b = bo) W Wa := ⟨hoa.os, hoa.tape, hoa.output, hoa.size, fun k hk hn => hoa.block k hk (fun hh => by rcases hh with h | h | h <;> first | exact hn (.inl h) | exact hn (.inr h) | omega)⟩
  have hO : Only (fun b => b = pb ∨ b = bo) W Wb := h0.trans (hob.mono fun _ h => .inl h)
  have hrow : ∀ {e : TypeId} {size m : Nat} {v : Value} {xs : List Value}, W.ownsRow W5.heap.size e size v m xs → ∀ g, v.ownBlock = some g → ¬ (g = pb ∨ g = bo) := fun hr g hg => by
    have := (hr.lt g hg).1; omega
  refine ⟨⟨⟨uu, V, boxed_only h1 hO (by omega), (h2.only hO (hrow h2.own) (fun k hk => hrow (h2.rows k hk).own)).retop⟩, hb.rebase _, h.only.later hO fun i hi => .inl (.inr hi)⟩, keeps_only (hO.mono (T := Turns b8 pb bo uu) fun k hk => by rcases hk with h | h <;> first | exact .inr (.inl h) | exact .inr (.inr (.inl h))) (h.cells h1 h2), stay_only hO fun k hk => ?_⟩
  obtain ⟨t1, t2, t3, t4⟩ := hT k hk
  exact ⟨by omega, fun hh => by rcases hh with h | h <;> omega⟩

/-- A round that appends a row. -/
theorem KI.yes {T : Nat → Prop} {W5 W Wa Wb Wc w1 : World} {b8 pb bo n : Nat} {sn vl' uu v' : Value} {V : Nat → Value} {R : List (List Int)} {o o' : Nat → Bool} {part sorted : List Int} {ob : Obj} (h : KI W5 b8 pb bo n sn R o W) (hb8 : b8 < W5.heap.size) (hpb : pb < W5.heap.size) (hbo : bo < W5.heap.size) (h8p : b8 ≠ pb) (h8b : b8 ≠ bo) (hT : ∀ k, T k → k < W5.heap.size ∧ k ≠ b8 ∧ k ≠ pb ∧ k ≠ bo)
    (h1 : Boxed W b8 25 uu) (h2 : OwnRows W W5.heap.size W.heap.size uu V R)
    (hoa : Only (fun b => b = pb ∨ b = bo ∨ W.heap.size ≤ b) W Wa) (hb : Cur Wb pb bo W.heap.size n sn (.slice none 0 0) o' []) (hob : Only (fun b => b = pb) Wa Wb) (hlb : Wb.ownsRow W.heap.size 2 1 vl' part.length (part.map (Value.int .i64)))
    (hs : Wc.ownsRow W.heap.size 2 1 vl' sorted.length (sorted.map (Value.int .i64))) (hoc : Only (fun b => vl'.ownBlock = some b) Wb Wc) (hf : ∀ k, k < sorted.length → Fits (nth sorted k)) (hl : sorted.length ≤ 1048576) (hRl : R.length ≤ 1048576)
    (hown : w1.ownsRow W5.heap.size 24 1 v' (R.length + 1) ((List.range R.length).map V ++ [vl'])) (hgrow : (Wc.alloc ob).grownBy w1 uu.ownBlock) :
    KI W5 b8 pb bo n sn (R ++ [sorted]) o' (w1.setCell ⟨b8, 0, none⟩ v') ∧ KeepsOthers W (w1.setCell ⟨b8, 0, none⟩ v') ∧ Stay T W (w1.setCell ⟨b8, 0, none⟩ v') := by
  have hsz := h.only.size
  have h0 : Only (fun b => b = pb ∨ b = bo) W Wa := ⟨hoa.os, hoa.tape, hoa.output, hoa.size, fun k hk hn => hoa.block k hk (fun hh => by rcases hh with h | h | h <;> first | exact hn (.inl h) | exact hn (.inr h) | omega)⟩
  have hOb : Only (fun b => b = pb ∨ b = bo) W Wb := h0.trans (hob.mono fun _ h => .inl h)
  have hnew : ∀ g, vl'.ownBlock = some g → W.heap.size ≤ g := fun g hg => (hlb.lt g hg).1
  have hOc : Only (fun b => b = pb ∨ b = bo) W Wc := hOb.later hoc fun i hi => .inr (hnew i hi)
  have hOd : Only (fun b => b = pb ∨ b = bo) W (Wc.alloc ob) := hOc.later (T := fun _ => False) (Only.of_below (below1 _ _)) fun i hi => hi.elim
  have hrow : ∀ {e : TypeId} {size m : Nat} {v : Value} {xs : List Value}, W.ownsRow W5.heap.size e size v m xs → ∀ g, v.ownBlock = some g → ¬ (g = pb ∨ g = bo) := fun hr g hg => by
    have := (hr.lt g hg).1; omega
  have hub : ∀ g, uu.ownBlock = some g → W5.heap.size ≤ g := fun g hg => (h2.own.lt g hg).1
  have hd1 : Boxed (Wc.alloc ob) b8 25 uu := boxed_only h1 hOd (by omega)
  have hd2 : OwnRows (Wc.alloc ob) W5.heap.size W.heap.size uu V R := h2.only hOd (hrow h2.own) (fun k hk => hrow (h2.rows k hk).own)
  have hdi : OwnInts (Wc.alloc ob) W5.heap.size (Wc.alloc ob).heap.size vl' sorted := ((OwnInts.mk' hs (by omega) hf).base hsz).below (below1 _ _) |>.retop
  have hap : ∀ i, i < R.length → ∀ g, vl'.ownBlock = some g → (V i).ownBlock ≠ some g := fun i hi g hg hg2 => by
    have a1 := hnew g hg
    have a2 := ((h2.rows i hi).own.lt g hg2).2
    omega
  have hp := hd2.push hdi hap hown (Only.of_grown hgrow) (by omega)
  have hdc : Cur (Wc.alloc ob) pb bo W5.heap.size n sn (.slice none 0 0) o' [] := by
    refine ((hb.only hoc (fun e => ?_) (fun e => ?_)).only (S := fun _ => False) (Only.of_below (below1 _ _)) id id).rebase _
    · have := hnew _ e; omega
    · have := hnew _ e; omega
  have h81 : Boxed w1 b8 25 uu := boxed_only hd1 (Only.of_grown hgrow) (fun e => by have := hub _ e; omega)
  have hc1 : Cur w1 pb bo W5.heap.size n sn (.slice none 0 0) o' [] := hdc.only (Only.of_grown hgrow) (fun e => by have := hub _ e; omega) (fun e => by have := hub _ e; omega)
  have hS : Only (fun b => b = b8) w1 (w1.setCell ⟨b8, 0, none⟩ v') := (Only.refl (fun b => b = b8) w1).setCell (p := ⟨b8, 0, none⟩) rfl v'
  have hO : Only (Turns b8 pb bo uu) W (w1.setCell ⟨b8, 0, none⟩ v') :=
    ((hOd.mono (T := Turns b8 pb bo uu) fun k hk => by rcases hk with h | h <;> first | exact .inr (.inl h) | exact .inr (.inr (.inl h))).trans ((Only.of_grown hgrow).mono fun k hk => .inr (.inr (.inr hk)))).trans (hS.mono fun k hk => .inl hk)
  refine ⟨⟨⟨v', _, h81.set v', (hp.only hS (fun g hg e => ?_) (fun k hk g hg e => ?_)).retop⟩, hc1.only hS (Ne.symm h8p) (Ne.symm h8b), h.only.later hO fun i hi => ?_⟩, keeps_only hO (h.cells h1 h2), stay_only hO fun k hk => ?_⟩
  · have := (hp.own.lt g hg).1; omega
  · have := ((hp.rows k hk).own.lt g hg).1; omega
  · rcases hi with h | h | h | h
    · exact .inl (.inl h)
    · exact .inl (.inr (.inl h))
    · exact .inl (.inr (.inr h))
    · exact .inr (hub _ h)
  · obtain ⟨t1, t2, t3, t4⟩ := hT k hk
    exact ⟨by omega, fun hh => by
      rcases hh with h | h | h | h
      · omega
      · omega
      · omega
      · have := hub _ h; omega⟩

open Go.RowKit

/-- The first m blocks alone. -/
def cutAt (W : World) (m : Nat) : World := { W with heap := W.heap.extract 0 m }
theorem cutAt_size {W : World} {m : Nat} (h : m ≤ W.heap.size) : (cutAt W m).heap.size = m := by simp [cutAt]; omega
theorem cutAt_block {W : World} {m k : Nat} (hk : k < m) : (cutAt W m).heap[k]? = W.heap[k]? := by
  simp only [cutAt, Array.getElem?_extract]
  split
  · simp
  · next h => rw [eq_comm, Array.getElem?_eq_none_iff]; omega
theorem cutAt_below {W : World} {m : Nat} (h : m ≤ W.heap.size) : Below (cutAt W m).heap.size (cutAt W m) W :=
  ⟨rfl, rfl, rfl, by rw [cutAt_size h]; exact h, fun k hk => (cutAt_block (by rw [cutAt_size h] at hk; exact hk)).symm⟩

theorem IntsAt.move {P : Nat → Prop} {w w' : World} {a : Option Addr} {zs : List Int} (h : IntsAt w a zs) (hb : ∀ b, P b → w'.heap[b]? = w.heap[b]?) (ha : ∀ b off, a = some ⟨b, off, none⟩ → P b) : IntsAt w' a zs :=
  ⟨h.len, h.fits, fun h0 => by
    obtain ⟨b, off, he, hc⟩ := h.cell h0
    exact ⟨b, off, he, fun k hk => (World.cell?_of_block (hb b (ha b off he))).trans (hc k hk)⟩⟩
theorem RowsAt.move {P : Nat → Prop} {w w' : World} {a : Option Addr} {A : Nat → Option Addr} {C : Nat → Nat} {zss : List (List Int)} (h : RowsAt w a A C zss) (hb : ∀ b, P b → w'.heap[b]? = w.heap[b]?) (ha : ∀ b off, a = some ⟨b, off, none⟩ → P b)
    (hA : ∀ k, k < zss.length → ∀ b off, A k = some ⟨b, off, none⟩ → P b) : RowsAt w' a A C zss :=
  ⟨h.len, fun h0 => by
    obtain ⟨b, off, he, hc⟩ := h.cell h0
    exact ⟨b, off, he, fun k hk => (World.cell?_of_block (hb b (ha b off he))).trans (hc k hk)⟩, fun k hk => (h.rows k hk).move hb (hA k hk)⟩

theorem addr_block {w : World} {B e size n : Nat} {v : Value} {xs : List Value} (h : w.ownsRow B e size v n xs) {b off : Nat} (ha : addrOf v = some ⟨b, off, none⟩) : B ≤ b ∧ b < w.heap.size := by
  rcases h.2 with ⟨rfl, _⟩ | ⟨g, cap, cur, rfl, hg, hgb, _⟩
  · simp [addrOf] at ha
  · have : g = b := by simp [addrOf] at ha; exact ha.1
    subst this
    exact ⟨hg, (Array.getElem?_eq_some_iff.1 hgb).1⟩

/-- The rows that preds leaves read as rows, in blocks of their own. -/
theorem RowSet.rowsAt {w : World} {B g n : Nat} {V : Nat → Value} {R : Nat → List Int} (h : RowSet w B g n V R) (hn : n ≤ 17592186044416) :
    RowsAt w (some ⟨g, 0, none⟩) (fun k => addrOf (V k)) (fun k => capOf (V k)) (rowsOf n R) ∧ (B ≤ g ∧ g < w.heap.size) ∧ ∀ k, k < n → ∀ b off, addrOf (V k) = some ⟨b, off, none⟩ → B ≤ b ∧ b < w.heap.size := by
  have hl := rowsOf_len n R
  refine ⟨⟨by omega, fun _ => ⟨g, 0, rfl, fun k hk => ?_⟩, fun k hk => ?_⟩, addr_block h.own rfl, fun k hk b off ha => addr_block (h.rows k hk).own ha⟩
  · rw [hl] at hk
    obtain ⟨a, cap, hv, _, _⟩ := (h.rows k hk).shape
    rw [rowsOf_row hk, Nat.zero_add, h.own.cellAt k (by omega)]
    simp [hk, hv, addrOf, capOf]
  · rw [hl] at hk
    obtain ⟨a, cap, hv, hi, _⟩ := (h.rows k hk).shape
    rw [rowsOf_row hk, hv]
    exact hi

/-- The pairs that slices.Backward hands on. -/
theorem back_ex {n : Nat} : ∀ (l : List Int), (∀ x ∈ l, ∃ u : Nat, x = (u : Int) ∧ u < n) → ∃ ps : List (Nat × Fin n), BackP ps l.reverse ∧ ps.map (fun x => ((x.2.val : Nat) : Int)) = l
  | [], _ => ⟨[], ⟨rfl, fun k h => absurd h (by simp)⟩, rfl⟩
  | x :: l, h => by
    obtain ⟨ps, hp, hm⟩ := back_ex (n := n) l (fun y hy => h y (List.mem_cons_of_mem _ hy))
    obtain ⟨u, hu, hlt⟩ := h x (List.mem_cons_self ..)
    refine ⟨(l.length, ⟨u, hlt⟩) :: ps, ⟨by simp [hp.len], fun k hk => ?_⟩, by simp [hm, hu]⟩
    have hpl : ps.length = l.length := by rw [hp.len, List.length_reverse]
    cases k with
    | zero =>
      refine ⟨by simp, ?_⟩
      simp [nth, hu]
    | succ k =>
      have hk' : k < ps.length := by simpa using hk
      obtain ⟨e1, e2⟩ := hp.at_ k hk'
      rw [List.length_reverse] at e1
      refine ⟨by simp; omega, ?_⟩
      rw [List.getElem_cons_succ, e2]
      have hlt2 : (ps[k]).1 < l.reverse.length := by rw [List.length_reverse]; omega
      rw [List.reverse_cons]
      unfold nth
      rw [List.getD_eq_getElem?_getD, List.getD_eq_getElem?_getD, List.getElem?_append_left hlt2]

theorem follow_at {w0 : World} {an : Option Addr} {A : Nat → Option Addr} {C : Nat → Nat} {cn n : Nat} {zss : List (List Int)} {p bo B : Nat} (hlen : zss.length = n) (hN : RowsAt w0 an A C zss) (hn : zss.length ≤ 256) (hl : ∀ u, u < zss.length → (row zss u).length ≤ 256)
    (hin : ∀ u : Nat, u < zss.length → ∀ x ∈ row zss u, ∃ v : Nat, x = (v : Int) ∧ v < zss.length) (hp : w0.heap.size ≤ p) (hbo : w0.heap.size ≤ bo) (hpB : p < B) (hboB : bo < B) (hne : p ≠ bo)
    (f : Nat) (w : World) (vl : Value) (o : Nat → Bool) (v : Nat) (hv : v < n) (ho : opens o n < f) (hB : B ≤ w.heap.size) (hw : Below w0.heap.size w0 w) (hc : Cur w p bo B n (.slice an n cn) vl o []) :
      Calls Try.prog 72 #[.pointer (some ⟨p, 0, none⟩), .int .i64 v] w fun e w' => e = .returned (.tuple #[]) ∧
        (∃ vl', Cur w' p bo B n (.slice an n cn) vl' (dfs zss f o v).1 (dfs zss f o v).2) ∧ Only (fun b => b = p ∨ b = bo ∨ B ≤ b) w w' := by
  subst hlen
  have h := opens_le o zss.length
  exact follow_is hN hn hl hin hp hbo hpB hboB hne f w vl o [] v hv ho (by simp; omega) hB hw hc

theorem boxed_below {W W' : World} {g : Nat} {t : TypeId} {v : Value} (h : Boxed W g t v) (hb : Below W.heap.size W W') : Boxed W' g t v := (hb.block _ h.lt).trans h
theorem box2_only {S : Nat → Prop} {W W' : World} {g : Nat} {t : TypeId} {u v : Value} (h : Box2 W g t u v) (hk : Only S W W') (hs : ¬ S g) : Box2 W' g t u v := (hk.block _ h.lt hs).trans h

/-- The vertices that have come. -/
def valsOf {n : Nat} (pre : List (Nat × Fin n)) : List Int := pre.map fun x => ((x.2.val : Nat) : Int)
theorem valsOf_snoc {n : Nat} (pre : List (Nat × Fin n)) (x : Nat × Fin n) : valsOf (pre ++ [x]) = valsOf pre ++ [((x.2.val : Nat) : Int)] := by simp [valsOf]

end Go.Proofs.Ytaagbnogbhegdaa
