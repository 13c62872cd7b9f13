/-
  Contracts of the laws' own helpers: copies of arguments (toInt64S, toInt64SS, toArena).
-/
import Derived.Test.YtmobegiojhlakaaSpecArena
import Derived.Deep.OwnRows
namespace Go.Proofs.Ytmobegiojhlakaa
open Go.RowKit

theorem info_int : (Try.prog.info? 2).map (fun i => (i.zero, i.size, i.bytes)) = some (some (.int .i64 0), 1, 8) := by kernel_rfl
theorem info_ints : (Try.prog.info? 27).map (fun i => (i.zero, i.size, i.bytes)) = some (some (.slice none 0 0), 1, 24) := by kernel_rfl

/-- What the copy's row holds when k numbers are copied. -/
def part (zs : List Int) (k : Nat) : Nat → Value := fun i => if i < k then .int .i64 (nth zs i) else .int .i64 0

theorem part_step {w : World} {g n k : Nat} {t : TypeId} {zs : List Int} (h : w.rowIs g t n (part zs k)) : (w.setCell ⟨g, k, none⟩ (.int .i64 (nth zs k))).rowIs g t n (part zs (k + 1)) := by
  refine (h.set k _).congr fun i _ => ?_
  simp only [part]
  by_cases e : i = k
  · subst e; simp
  · rw [if_neg e]
    by_cases hlt : i < k
    · rw [if_pos hlt, if_pos (by omega)]
    · rw [if_neg hlt, if_neg (by omega)]

set_option maxHeartbeats 1000000 in
theorem toInt64S_any (a : Option Addr) (zs : List Int) (cap : Nat) (w : World) (h : IntsAt w a zs) :
    Calls Try.prog 40 #[.slice a zs.length cap] w fun e w' => e = .returned (.slice (some ⟨w.heap.size, 0, none⟩) zs.length zs.length) ∧
      w'.rowIs w.heap.size 2 zs.length (fun i => .int .i64 (nth zs i)) ∧ w'.heap.size = w.heap.size + 1 ∧ Below w.heap.size w w' := by
  obtain ⟨hlen, _, hcell⟩ := h
  have hmk := run_make_row' (P := Try.prog) 27 2 (.int .i64 0) 8 Try.underlying27 info_int rfl .i64 .i64 zs.length (by omega) (by omega)
  have HC := Lib.hid hcell
  clear hcell
  go_enter Try.func40, Try.ntmps40
  go_wp2
  go_loopw [4] (fun i wr => ∃ k : Nat, k ≤ zs.length ∧ i = .int .i64 k ∧ Hid (wr.rowIs w.heap.size 2 zs.length (part zs k)) ∧ Hid (wr.heap.size = w.heap.size + 1) ∧ Hid (Below w.heap.size w wr)) (fun i _ => zs.length - (intOf i).toNat)
  case atStart => exact ⟨0, Nat.zero_le _, rfl, (World.rowIs_made _ _ _ _).congr (fun i _ => by simp [part]), by simp [Hid], below1 _ _⟩
  case round =>
    clear hmk
    obtain ⟨k, hk, rfl, HR, HS, HB⟩ := hrel
    by_cases hlt : k < zs.length
    · obtain ⟨b, off, ha, hc⟩ := HC.out (by omega)
      subst ha
      have hck := Below.cell_some (B := 0) HB.out rfl (hc k hlt)
      have hcs := HR.out.cell hlt
      have hcf := HR.out.frozen k
      clear hc
      go_wp2
      go_roundw
      case rel => exact ⟨k + 1, by omega, by go_num, part_step HR.out, by simp [Hid]; exact HS.out, HB.out.setCell (Nat.le_refl _) _⟩
      case measure => simp [intOf]; omega
    · have HE : Hid (wr.rowIs w.heap.size 2 zs.length (fun i => .int .i64 (nth zs i))) := HR.out.congr fun i hi => by simp only [part]; rw [if_pos (by omega)]
      go_wp2
      go_ret
      exact ⟨rfl, HE.out, HS.out, HB.out⟩

/-- The copied rows' outer row when k rows are copied. -/
def outer (N : Nat) (zss : List (List Int)) (k : Nat) : Nat → Value := fun j => if j < k then .slice (some ⟨N + 1 + j, 0, none⟩) (row zss j).length (row zss j).length else .slice none 0 0

/-- What holds when k rows are copied; N: the outer row's block. -/
structure Copied (w wr : World) (N : Nat) (zss : List (List Int)) (k : Nat) : Prop where
  below : Below w.heap.size w wr
  size : wr.heap.size = N + 1 + k
  top : wr.rowIs N 27 zss.length (outer N zss k)
  done : ∀ j, j < k → wr.rowIs (N + 1 + j) 2 (row zss j).length (fun i => .int .i64 (nth (row zss j) i))

theorem rowIs_below {w w' : World} {g n : Nat} {t : TypeId} {f : Nat → Value} (h : w.rowIs g t n f) (hb : Below w.heap.size w w') : w'.rowIs g t n f := h.of_block (hb.block g h.lt)

theorem Copied.step {w wr w1 : World} {N k : Nat} {zss : List (List Int)} (h : Copied w wr N zss k) (hN : w.heap.size ≤ N) (hb : Below wr.heap.size wr w1) (hs : w1.heap.size = wr.heap.size + 1)
    (hr : w1.rowIs wr.heap.size 2 (row zss k).length (fun i => .int .i64 (nth (row zss k) i))) :
    Copied w (w1.setCell ⟨N, k, none⟩ (.slice (some ⟨wr.heap.size, 0, none⟩) (row zss k).length (row zss k).length)) N zss (k + 1) := by
  refine ⟨(h.below.trans (hb.mono h.below.size)).setCell hN _, by simp [hs, h.size]; omega, ((rowIs_below h.top hb).set k _).congr fun j _ => ?_, fun j hj => ?_⟩
  · simp only [outer]
    by_cases e : j = k
    · subst e; simp [h.size]
    · rw [if_neg e]
      by_cases hlt : j < k
      · rw [if_pos hlt, if_pos (by omega)]
      · rw [if_neg hlt, if_neg (by omega)]
  · by_cases e : j = k
    · subst e
      have := hr.setOther (a := ⟨N, j, none⟩) (by rw [h.size]; show N + 1 + j ≠ N; omega) (.slice (some ⟨wr.heap.size, 0, none⟩) (row zss j).length (row zss j).length)
      rw [h.size] at this ⊢
      exact this
    · exact (rowIs_below (h.done j (by omega)) hb).setOther (by show N + 1 + j ≠ N; omega) _

set_option maxHeartbeats 1000000 in
theorem toInt64SS_any (a : Option Addr) (A : Nat → Option Addr) (C : Nat → Nat) (zss : List (List Int)) (cap : Nat) (w : World) (h : RowsAt w a A C zss) (hn : zss.length ≤ 1048576) :
    Calls Try.prog 80 #[.slice a zss.length cap] w fun e w' => e = .returned (.slice (some ⟨w.heap.size, 0, none⟩) zss.length zss.length) ∧ Copied w w' w.heap.size zss zss.length := by
  have hmk := run_make_row' (P := Try.prog) 28 27 (.slice none 0 0) 24 Try.underlying28 info_ints rfl .i64 .i64 zss.length (by omega) (by omega)
  have HC := Lib.hid h
  clear h
  go_enter Try.func80, Try.ntmps80
  go_wp2
  go_loopw [4] (fun i wr => ∃ k : Nat, k ≤ zss.length ∧ i = .int .i64 k ∧ Hid (Copied w wr w.heap.size zss k)) (fun i _ => zss.length - (intOf i).toNat)
  case atStart => exact ⟨0, Nat.zero_le _, rfl, below1 _ _, by simp, (World.rowIs_made _ _ _ _).congr (fun i _ => by simp [outer]), fun j hj => absurd hj (Nat.not_lt_zero _)⟩
  case round =>
    clear hmk
    obtain ⟨k, hk, rfl, HR⟩ := hrel
    by_cases hlt : k < zss.length
    · have HC' := Lib.hid (HC.out.below (HR.out.below))
      obtain ⟨b, off, ha, hc⟩ := HC'.out.cell (by omega)
      subst ha
      have hck := hc k hlt
      clear hc
      have HT := Lib.hid (toInt64S_any (A k) (row zss k) (C k) wr (HC'.out.rows k hlt))
      have HF : Hid (∀ w1, Below wr.heap.size wr w1 → w1.cell? ⟨w.heap.size, k, none⟩ = some (outer w.heap.size zss k k) ∧ w1.frozen? ⟨w.heap.size, k, none⟩ = false) := fun w1 hb => by
        have := rowIs_below HR.out.top hb
        exact ⟨this.cell hlt, this.frozen k⟩
      go_wp2_with (go_at_call 40; refine HT.out.mono ?_; rintro e w1 ⟨rfl, h1, h2, h3⟩; obtain ⟨hf1, hf2⟩ := HF.out w1 h3; have HS := Lib.hid (HR.out.step (Nat.le_refl _) h3 h2 h1); clear h1 h2 h3)
      go_roundw
      case rel => exact ⟨k + 1, by omega, by go_num, HS.out⟩
      case measure => simp [intOf]; omega
    · have hkk : k = zss.length := by omega
      have HE : Hid (Copied w wr w.heap.size zss zss.length) := by rw [← hkk]; exact HR.out
      clear hkk
      go_wp2
      go_ret
      exact ⟨rfl, HE.out⟩

/-- What toArena leaves: the owners' copy in the fourth new block, the rows' in the fifth and those behind it. -/
structure ArenaCopy (w w' : World) (O : List Int) (zss : List (List Int)) : Prop where
  below : Below w.heap.size w w'
  size : w'.heap.size = w.heap.size + 5 + zss.length
  owner : w'.rowIs (w.heap.size + 3) 2 O.length (fun i => .int .i64 (nth O i))
  top : w'.rowIs (w.heap.size + 4) 27 zss.length (outer (w.heap.size + 4) zss zss.length)
  done : ∀ j, j < zss.length → w'.rowIs (w.heap.size + 4 + 1 + j) 2 (row zss j).length (fun i => .int .i64 (nth (row zss j) i))

theorem ArenaCopy.ints {w w' w0 : World} {a : Option Addr} {O : List Int} {zss : List (List Int)} (h : ArenaCopy w w' O zss) (hO : IntsAt w0 a O) : IntsAt w' (some ⟨w.heap.size + 3, 0, none⟩) O :=
  ⟨hO.len, hO.fits, fun _ => ⟨_, _, rfl, fun k hk => by rw [Nat.zero_add]; exact h.owner.cell hk⟩⟩

theorem ArenaCopy.rows {w w' w0 : World} {a : Option Addr} {A : Nat → Option Addr} {C : Nat → Nat} {O : List Int} {zss : List (List Int)} (h : ArenaCopy w w' O zss) (hN : RowsAt w0 a A C zss) :
    RowsAt w' (some ⟨w.heap.size + 4, 0, none⟩) (fun j => some ⟨w.heap.size + 4 + 1 + j, 0, none⟩) (fun j => (row zss j).length) zss :=
  ⟨hN.len, fun _ => ⟨_, _, rfl, fun k hk => by rw [Nat.zero_add, h.top.cell hk]; simp only [outer]; rw [if_pos hk]⟩,
    fun k hk => ⟨(hN.rows k hk).len, (hN.rows k hk).fits, fun _ => ⟨_, _, rfl, fun i hi => by rw [Nat.zero_add]; exact (h.done k hk).cell hi⟩⟩⟩

set_option maxHeartbeats 1000000 in
theorem toArena_any (ao an : Option Addr) (O : List Int) (zss : List (List Int)) (co cn : Nat) (A : Nat → Option Addr) (C : Nat → Nat) (w : World) (hO : IntsAt w ao O) (hN : RowsAt w an A C zss) (hn : zss.length ≤ 1048576) :
    Calls Try.prog 31 #[.agg #[.slice ao O.length co, .slice an zss.length cn]] w fun e w' =>
      e = .returned (.agg #[.slice (some ⟨w.heap.size + 3, 0, none⟩) O.length O.length, .slice (some ⟨w.heap.size + 4, 0, none⟩) zss.length zss.length]) ∧ ArenaCopy w w' O zss := by
  have HO := Lib.hid hO
  have HN := Lib.hid hN
  clear hO hN
  go_enter Try.func31, Try.ntmps31
  go_wp2_with fail
  refine (toInt64S_any ao O co _ (((HO.out.alloc _).alloc _).alloc _)).mono ?_
  rintro e w1 ⟨rfl, h1, h2, h3⟩
  have hs1 : w1.heap.size = w.heap.size + 4 := by simp at h2; omega
  have HS1 := Lib.hid hs1
  have b0 := Lib.hid ((((Box2.new w 46 (.slice ao O.length co) (.slice an zss.length cn)).alloc _).alloc _).below h3)
  have b1 := Lib.hid (((Box2.new_at (g := w.heap.size + 1) (by simp) 30 (.slice none 0 0) (.slice none 0 0)).alloc _).below h3)
  have b2 := Lib.hid ((Box2.new_at (g := w.heap.size + 1 + 1) (by simp) 30 (.slice none 0 0) (.slice none 0 0)).below h3)
  have hB1 : Hid (Below w.heap.size w w1) := ((below2 w _ _).alloc (by simp; omega) _).trans (h3.mono (by simp; omega))
  have hR1 : Hid (w1.rowIs (w.heap.size + 3) 2 O.length (fun i => .int .i64 (nth O i))) := by simpa [Hid] using h1
  have c00 := b0.out.cell0
  have c01 := b0.out.cell1
  have c20 := b2.out.cell0
  have f20 := b2.out.frozen 0
  have hlt0 : w.heap.size ≠ w.heap.size + 1 + 1 := by omega
  clear h1 h2 h3 hs1
  go_wp2_with fail
  have hB4 : Hid (Below w.heap.size w (w1.setCell ⟨w.heap.size + 1 + 1, 0, none⟩ (.slice (some ⟨w.heap.size + 1 + 1 + 1, 0, none⟩) O.length O.length))) := hB1.out.setCell (by show w.heap.size ≤ w.heap.size + 1 + 1; omega) _
  refine (toInt64SS_any an A C zss cn _ (HN.out.below hB4.out) hn).mono ?_
  rintro e w2 ⟨rfl, h1⟩
  have b0' := Lib.hid ((b0.out.other (a := ⟨w.heap.size + 1 + 1, 0, none⟩) (by show w.heap.size ≠ w.heap.size + 1 + 1; omega) _).below h1.below)
  have b1' := Lib.hid ((b1.out.other (a := ⟨w.heap.size + 1 + 1, 0, none⟩) (by show w.heap.size + 1 ≠ w.heap.size + 1 + 1; omega) _).below h1.below)
  have b2' := Lib.hid ((b2.out.set0 (.slice (some ⟨w.heap.size + 1 + 1 + 1, 0, none⟩) O.length O.length)).below h1.below)
  have hB2 : Hid (Below w.heap.size w w2) := hB4.out.trans (h1.below.mono hB4.out.size)
  have hR2 : Hid (w2.rowIs (w.heap.size + 3) 2 O.length (fun i => .int .i64 (nth O i))) := rowIs_below (hR1.out.setOther (a := ⟨w.heap.size + 1 + 1, 0, none⟩) (by show w.heap.size + 3 ≠ w.heap.size + 1 + 1; omega) _) h1.below
  have HC := Lib.hid h1
  have hsz : Hid ((w1.setCell ⟨w.heap.size + 1 + 1, 0, none⟩ (.slice (some ⟨w.heap.size + 1 + 1 + 1, 0, none⟩) O.length O.length)).heap.size = w.heap.size + 4) := by simp [Hid]; exact HS1.out
  rw [hsz.out] at HC ⊢
  clear h1 c00 c01 c20 f20 hlt0
  have c20 := b2'.out.cell0
  have c21 := b2'.out.cell1
  have f21 := b2'.out.frozen 1
  have c10 := b1'.out.cell0
  have c11 := b1'.out.cell1
  have f10 := b1'.out.frozen 0
  have f11 := b1'.out.frozen 1
  go_wp2_with fail
  have b1f := Lib.hid (((b1'.out.other (a := ⟨w.heap.size + 1 + 1, 1, none⟩) (by show w.heap.size + 1 ≠ w.heap.size + 1 + 1; omega) (.slice (some ⟨w.heap.size + 4, 0, none⟩) zss.length zss.length)).set0 (.slice (some ⟨w.heap.size + 1 + 1 + 1, 0, none⟩) O.length O.length)).set1 (.slice (some ⟨w.heap.size + 4, 0, none⟩) zss.length zss.length))
  have d0 := b1f.out.cell0
  have d1 := b1f.out.cell1
  have hfin : Hid (ArenaCopy w (((w2.setCell ⟨w.heap.size + 1 + 1, 1, none⟩ (.slice (some ⟨w.heap.size + 4, 0, none⟩) zss.length zss.length)).setCell ⟨w.heap.size + 1, 0, none⟩ (.slice (some ⟨w.heap.size + 1 + 1 + 1, 0, none⟩) O.length O.length)).setCell
      ⟨w.heap.size + 1, 1, none⟩ (.slice (some ⟨w.heap.size + 4, 0, none⟩) zss.length zss.length)) O zss) := by
    have hh := HC.out
    refine ⟨((hB2.out.setCell (by show w.heap.size ≤ w.heap.size + 1 + 1; omega) _).setCell (by show w.heap.size ≤ w.heap.size + 1; omega) _).setCell (by show w.heap.size ≤ w.heap.size + 1; omega) _, by simp [hh.size], ?_, ?_, fun j hj => ?_⟩
    · exact ((hR2.out.setOther (by show w.heap.size + 3 ≠ w.heap.size + 1 + 1; omega) _).setOther (by show w.heap.size + 3 ≠ w.heap.size + 1; omega) _).setOther (by show w.heap.size + 3 ≠ w.heap.size + 1; omega) _
    · exact ((hh.top.setOther (by show w.heap.size + 4 ≠ w.heap.size + 1 + 1; omega) _).setOther (by show w.heap.size + 4 ≠ w.heap.size + 1; omega) _).setOther (by show w.heap.size + 4 ≠ w.heap.size + 1; omega) _
    · exact (((hh.done j hj).setOther (by show w.heap.size + 4 + 1 + j ≠ w.heap.size + 1 + 1; omega) _).setOther (by show w.heap.size + 4 + 1 + j ≠ w.heap.size + 1; omega) _).setOther (by show w.heap.size + 4 + 1 + j ≠ w.heap.size + 1; omega) _
  exact bodyPost_ret (v := .agg #[.slice (some ⟨w.heap.size + 1 + 1 + 1, 0, none⟩) O.length O.length, .slice (some ⟨w.heap.size + 4, 0, none⟩) zss.length zss.length]) (by simp [results, Try.results31, go_sem, c10, c11]) rfl ⟨rfl, hfin.out⟩

/-- The copy of an arena: it reads as the arena, and nothing that was there has turned. -/
theorem toArena_at {w : World} {v : Value} {O : List Int} {zss : List (List Int)} (h : ArenaAt w v O zss) (hn : zss.length ≤ 1048576) :
    Calls Try.prog 31 #[v] w fun e w' =>
      e = .returned (.agg #[.slice (some ⟨w.heap.size + 3, 0, none⟩) O.length O.length, .slice (some ⟨w.heap.size + 4, 0, none⟩) zss.length zss.length]) ∧ ArenaCopy w w' O zss ∧
      ArenaAt w' (.agg #[.slice (some ⟨w.heap.size + 3, 0, none⟩) O.length O.length, .slice (some ⟨w.heap.size + 4, 0, none⟩) zss.length zss.length]) O zss := by
  obtain ⟨ao, an, co, cn, A, C, rfl, h1, h2⟩ := h
  refine (toArena_any ao an O zss co cn A C w h1 h2 hn).mono fun e w' ⟨he, hc⟩ => ⟨he, hc, ?_⟩
  exact ⟨_, _, _, _, _, _, rfl, hc.ints h1, hc.rows h2⟩

end Go.Proofs.Ytmobegiojhlakaa
