/-
  Contract: slices.SortFunc over rows, by their first elements.
-/
import Derived.Test.YtaagbnogbhegdaaSortFuncLays
import Derived.Test.YtaagbnogbhegdaaKosa
import Derived.Test.YtaagbnogbhegdaaBase1
import Derived.Sort.OwnSortedInts
import Derived.Deep.RegionHeld3
namespace Go.Proofs.Ytaagbnogbhegdaa
open Go.RowKit Go.Sort Go.Lib

theorem isNaN_is (x : Int) (w : World) : Calls Try.prog 124 #[.int .i64 x] w fun e w' => e = .returned (.bool false) ∧ w' = w := by
  go_enter Try.func124, Try.ntmps124
  go_wp2
  go_ret
  exact ⟨rfl, rfl⟩

theorem Compare_is {x y r : Int} (hr : compareInt x y = r) (w : World) : Calls Try.prog 80 #[.int .i64 x, .int .i64 y] w fun e w' => e = .returned (.int .i64 r) ∧ w' = w := by
  by_cases h1 : x < y
  · have hE : Hid (r = -1) := by rw [← hr]; simp [compareInt, h1, Hid]
    clear hr
    go_enter Try.func80, Try.ntmps80
    go_wp2_with (go_at_call 124; refine (isNaN_is _ _).mono ?_; rintro e w' ⟨rfl, rfl⟩)
    go_ret
    exact ⟨by rw [hE.out]; rfl, rfl⟩
  · by_cases h2 : x > y
    · have hE : Hid (r = 1) := by rw [← hr]; simp [compareInt, h1, h2, Hid]
      clear hr
      go_enter Try.func80, Try.ntmps80
      go_wp2_with (go_at_call 124; refine (isNaN_is _ _).mono ?_; rintro e w' ⟨rfl, rfl⟩)
      go_ret
      exact ⟨by rw [hE.out]; rfl, rfl⟩
    · have hE : Hid (r = 0) := by rw [← hr]; simp [compareInt, h1, h2, Hid]
      clear hr
      go_enter Try.func80, Try.ntmps80
      go_wp2_with (go_at_call 124; refine (isNaN_is _ _).mono ?_; rintro e w' ⟨rfl, rfl⟩)
      go_ret
      exact ⟨by rw [hE.out]; rfl, rfl⟩

/-- The closure that compares two rows. -/
theorem lessRows_is {b c n m cb cc : Nat} {x y r : Int} (hr : compareInt x y = r) (w : World) (hn : 0 < n) (hm : 0 < m) (hb : w.cell? ⟨b, 0, none⟩ = some (.int .i64 x)) (hc : w.cell? ⟨c, 0, none⟩ = some (.int .i64 y)) :
    Calls Try.prog 79 #[.slice (some ⟨b, 0, none⟩) n cb, .slice (some ⟨c, 0, none⟩) m cc] w fun e w' => e = .returned (.int .i64 r) ∧ ∃ q, w' = w.drewN q := by
  have hC := Lib.hid (fun W : World => Compare_is hr W)
  have hn' : (0 : Int) < n := by omega
  have hm' : (0 : Int) < m := by omega
  clear hr
  go_enter Try.func79, Try.ntmps79
  go_wp2
  go_region_held3 (fun w' => w'.cell? ⟨b, 0, none⟩ = some (.int .i64 x) ∧ w'.cell? ⟨c, 0, none⟩ = some (.int .i64 y))
    (first
      | go_keep
      | exact ⟨hb, hc⟩)
    (first | (go_at_call 80; refine (hC.out _).mono ?_; rintro e w' ⟨rfl, rfl⟩))
  go_wp2
  go_ret
  exact ⟨rfl, 1, rfl⟩

theorem heap_sortedE {α : Type} [Inhabited α] (enc : α → Value) {w : World} {g n : Nat} {os : Array Obj} {cur : Array Value} {e : TypeId} {fr : Nat × Nat} (d : Array α) (hb : w.heap[g]? = some (.cells cur e fr)) :
    (sortWorld enc w g 0 n d os).heap[g]? = some (.cells (putCells enc 0 d cur) e fr) := by
  have hg : g < w.heap.size := (Array.getElem?_eq_some_iff.1 hb).1
  unfold sortWorld
  rw [heap_grow_old _ _ (by simpa using hg)]
  simp [putRow, mapBlock, Sort.ahead, Array.getElem?_modify, hb, onCells]

theorem grownBy_sortedE {α : Type} [Inhabited α] (enc : α → Value) {w : World} {g n : Nat} {os : Array Obj} (d : Array α) : w.grownBy (sortWorld enc w g 0 n d os) (some g) := by
  unfold sortWorld
  refine ⟨rfl, rfl, rfl, by simp, fun k hk hne => ?_⟩
  rw [heap_grow_old _ _ (by simpa using hk)]
  have : g ≠ k := fun e => hne (by rw [e])
  simp [putRow, mapBlock, Sort.ahead, Array.getElem?_modify, this]

theorem take_putCellsE {α : Type} [Inhabited α] (enc : α → Value) (cur : Array Value) (d : Array α) (h : d.size ≤ cur.size) : (putCells enc 0 d cur).toList.take d.size = d.toList.map enc := by
  apply List.ext_getElem?
  intro j
  by_cases hj : j < d.size
  · rw [List.getElem?_take_of_lt hj, Array.getElem?_toList]
    simp [putCells, hj, show j < cur.size by omega]
  · rw [List.getElem?_take_eq_none (by omega), List.getElem?_eq_none (by simp; omega)]

/-- A row that is sorted: its value, its numbers. -/
structure RowV (w : World) (B blk : Nat) where
  v : Value
  zs : List Int
  own : OwnInts w B w.heap.size v zs
  pos : 0 < zs.length
  ne : v.ownBlock ≠ some blk

theorem RowV.shape {w : World} {B blk : Nat} (x : RowV w B blk) : ∃ g cap, x.v = .slice (some ⟨g, 0, none⟩) x.zs.length cap ∧ g ≠ blk ∧ g < w.heap.size ∧ w.cell? ⟨g, 0, none⟩ = some (.int .i64 (hd x.zs)) := by
  obtain ⟨a, cap, hv, hi, hb⟩ := x.own.shape
  obtain ⟨g, rfl, _, hlt, hg, _⟩ := hb x.pos
  obtain ⟨b, off, e, hc⟩ := hi.cell x.pos
  obtain ⟨rfl, rfl⟩ : g = b ∧ 0 = off := by simpa using e
  have h0 := hc 0 x.pos
  exact ⟨g, cap, hv, fun e => x.ne (by rw [hg, e]), hlt, by simpa [hd] using h0⟩

def cfRow {w : World} {B blk : Nat} (x y : RowV w B blk) : Int := compareInt (hd x.zs) (hd y.zs)

theorem ltRow {w : World} {B blk : Nat} (x y : RowV w B blk) : Go.Proofs.ltOf cfRow x y = decide (hd x.zs < hd y.zs) := by
  unfold Go.Proofs.ltOf cfRow compareInt
  by_cases h1 : hd x.zs < hd y.zs
  · simp [h1]
  · by_cases h2 : hd y.zs < hd x.zs <;> simp [h1, h2]

theorem swoRow {w : World} {B blk : Nat} : SWO (Go.Proofs.ltOf (cfRow (w := w) (B := B) (blk := blk))) where
  irrefl x := by rw [ltRow]; simp
  trans x y z h1 h2 := by rw [ltRow] at *; simp at *; omega
  ntrans x y z h1 h2 := by rw [ltRow] at *; simp at *; omega

theorem cmpRow {w : World} {B blk : Nat} [Inhabited (RowV w B blk)] (size : Nat) : Go.Proofs.CmpReads Try.prog 79 #[] (fun x : RowV w B blk => x.v) cfRow blk 0 size w := fun m os dk _ x y => by
  obtain ⟨g, c1, e1, n1, l1, h1⟩ := x.shape
  obtain ⟨g', c2, e2, n2, l2, h2⟩ := y.shape
  show Calls _ _ (#[x.v, y.v] ++ #[]) _ _
  rw [e1, e2]
  exact lessRows_is rfl _ x.pos y.pos ((World.cell?_of_block ((grownBy_sortedE _ dk).block g l1 (fun e => n1 (by simpa using e)))).trans h1) ((World.cell?_of_block ((grownBy_sortedE _ dk).block g' l2 (fun e => n2 (by simpa using e)))).trans h2)

/-- slices.SortFunc over rows of one's own: the same rows, by their first elements. -/
theorem sortRows_is {w : World} {B : Nat} {v : Value} {V : Nat → Value} {zss : List (List Int)} (h : OwnRows w B w.heap.size v V zss) (hpos : ∀ p ∈ zss, 0 < p.length) (hl : zss.length ≤ 1048576) :
    Calls Try.prog 78 #[v, .func (.func 79) #[] #[]] w fun e w' => e = .returned (.tuple #[]) ∧ Only (fun b => v.ownBlock = some b) w w' ∧
      ∃ V' R, OwnRows w' B w'.heap.size v V' R ∧ R.Perm zss ∧ R.Pairwise fun p q => ¬ hd q < hd p := by
  rcases h.own.2 with ⟨hv, h0⟩ | ⟨g, cap, cur, hv, hg, hb, hc, hm, hcs, ht⟩
  · have hz : zss = [] := List.length_eq_zero_iff.1 h0
    subst hz
    subst hv
    refine (Go.Proofs.AnyF.slices_SortFunc_none { sortFuncLays with } none 0 _ w).mono ?_
    rintro e w' ⟨rfl, rfl⟩
    exact ⟨rfl, Only.refl _ _, V, [], h, .refl _, .nil⟩
  · subst hv
    have hlt : g < w.heap.size := (Array.getElem?_eq_some_iff.1 hb).1
    by_cases hz : zss.length = 0
    · have hz' : zss = [] := List.length_eq_zero_iff.1 hz
      subst hz'
      refine (Go.Proofs.AnyF.slices_SortFunc_none { sortFuncLays with } (some ⟨g, 0, none⟩) cap _ w).mono ?_
      rintro e w' ⟨rfl, rfl⟩
      exact ⟨rfl, Only.refl _ _, V, [], h, .refl _, .nil⟩
    · have hrow : ∀ k (hk : k < zss.length), 0 < (row zss k).length := fun k hk => hpos _ (by rw [row_eq hk]; exact List.getElem_mem _)
      have hne : ∀ k, k < zss.length → (V k).ownBlock ≠ some g := fun k hk => own_types h.own (h.rows k hk).own g rfl
      let f : Fin zss.length → RowV w B g := fun k => ⟨V k, row zss k, h.rows k k.isLt, hrow k k.isLt, hne k k.isLt⟩
      haveI : Inhabited (RowV w B g) := ⟨f ⟨0, by omega⟩⟩
      let d : Array (RowV w B g) := Array.ofFn f
      have hds : d.size = zss.length := by simp [d]
      have hdl : d.toList.map (fun x => x.v) = (List.range zss.length).map V := by
        apply List.ext_getElem
        · simp [d]
        · intro i h1 h2
          simp [d, f]
      have hdz : d.toList.map (fun x => x.zs) = zss := by
        apply List.ext_getElem
        · simp [d]
        · intro i h1 h2
          simp [d, f, row_eq (show i < zss.length by simpa using h2)]
      have hH : Holds (fun x : RowV w B g => x.v) w g 0 d := fun j hj => by
        have hj' : j < zss.length := by omega
        refine ⟨?_, h.own.frozenAt _⟩
        rw [Nat.zero_add, h.own.cellAt j (by omega)]
        simp [d, f, hj']
      have eg : ∀ args w, (callFunc 79 args).run Try.prog w = .ok (.enter 79 args) w := Go.Proofs.enters_of Try.func79 (by kernel_rfl) rfl
      have hcon := Go.Proofs.Any.slices_SortFunc sortFuncLays (fun x : RowV w B g => x.v) (fun x => by obtain ⟨b, c, e, _⟩ := x.shape; simp only [e]; rfl) cfRow swoRow 79 #[] g 0 cap d w eg (cmpRow d.size).lays hH hlt (by omega)
      rw [hds] at hcon
      refine hcon.mono ?_
      rintro e w' ⟨rfl, d', n, os, hp, hs, rfl⟩
      obtain ⟨hsz, _, hperm⟩ := hp
      have hsz' : d'.size = d.size := hsz
      have hperm' : d'.toList.Perm d.toList := by
        rw [← hds] at hperm
        have e1 : d'.extract 0 d.size = d' := by rw [← hsz']; exact Array.extract_size
        rw [e1, Array.extract_size] at hperm
        exact hperm
      have hO : Only (fun b => (Value.slice (some ⟨g, 0, none⟩) zss.length cap).ownBlock = some b) w (sortWorld (fun x : RowV w B g => x.v) w g 0 n d' os) :=
        (Only.of_grown (grownBy_sortedE _ d')).mono fun b hb => by simpa [Value.ownBlock] using hb
      refine ⟨rfl, hO, fun k => (d'.getD k (f ⟨0, by omega⟩)).v, d'.toList.map fun x => x.zs, ?_, ?_, ?_⟩
      · have hlz : (d'.toList.map fun x => x.zs).length = d'.size := by simp
        have hdn : d'.size = zss.length := by omega
        have hV : ∀ k (hk : k < d'.size), (d'.getD k (f ⟨0, by omega⟩)) = d'[k] := fun k hk => by simp [Array.getD, hk]
        have hZ : ∀ k (hk : k < d'.size), row (d'.toList.map fun x => x.zs) k = (d'[k]).zs := fun k hk => by
          rw [row_eq (by rw [hlz]; exact hk)]; simp
        have hown : (sortWorld (fun x : RowV w B g => x.v) w g 0 n d' os).ownsRow B 24 1 (.slice (some ⟨g, 0, none⟩) d'.size cap) d'.size (d'.toList.map fun x => x.v) :=
          ⟨by simp, .inr ⟨g, cap, _, rfl, hg, heap_sortedE _ _ hb, by omega, hm, by simp [putCells, hcs], by rw [Nat.mul_one]; exact take_putCellsE _ cur d' (by omega)⟩⟩
        have hmap : (List.range d'.size).map (fun k => (d'.getD k (f ⟨0, by omega⟩)).v) = d'.toList.map fun x => x.v := by
          apply List.ext_getElem
          · simp
          · intro i h1 h2
            have hi : i < d'.size := by simpa using h2
            simp [hi]
        have hP0 : d.toList.Pairwise fun x y => ∀ b, x.v.ownBlock = some b → y.v.ownBlock ≠ some b := by
          rw [List.pairwise_iff_getElem]
          intro i j hi hj hij b h1 h2
          have hi' : i < zss.length := by simpa [d] using hi
          have hj' : j < zss.length := by simpa [d] using hj
          exact h.apart i j hi' hj' (by omega) b (by simpa [d, f] using h1) (by simpa [d, f] using h2)
        have hP1 : d'.toList.Pairwise fun x y => ∀ b, x.v.ownBlock = some b → y.v.ownBlock ≠ some b :=
          (hperm'.pairwise_iff (fun {x y} hxy b h1 h2 => hxy b h2 h1)).2 hP0
        rw [List.pairwise_iff_getElem] at hP1
        refine ⟨by rw [hlz, hmap, ← hdn]; exact hown, fun b hb => ?_, by rw [hlz, hdn]; exact h.len, fun k hk => ?_, fun i j hi hj hne b h1 h2 => ?_⟩
        · exact (hown.lt b hb).2
        · rw [hlz] at hk
          rw [hZ k hk]
          simp only [hV k hk]
          exact ((d'[k]).own.only hO (fun b h1 h2 => (d'[k]).ne (by rw [h1]; simpa [Value.ownBlock] using h2.symm))).retop
        · rw [hlz] at hi hj
          simp only [hV i hi] at h1
          simp only [hV j hj] at h2
          by_cases hij : i < j
          · exact hP1 i j (by simpa using hi) (by simpa using hj) hij b (by simpa using h1) (by simpa using h2)
          · exact hP1 j i (by simpa using hj) (by simpa using hi) (by omega) b (by simpa using h2) (by simpa using h1)
      · rw [← hdz]; exact hperm'.map _
      · rw [List.pairwise_map, List.pairwise_iff_getElem]
        intro i j hi hj hij
        have hi' : i < d'.size := by simpa using hi
        have hj' : j < d'.size := by simpa using hj
        have := hs i j (Nat.zero_le _) hij (by omega)
        rw [getElem!_pos d' j hj', getElem!_pos d' i hi', ltRow] at this
        simpa using this

end Go.Proofs.Ytaagbnogbhegdaa
