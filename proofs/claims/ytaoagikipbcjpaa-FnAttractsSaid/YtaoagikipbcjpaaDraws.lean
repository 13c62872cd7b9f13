/-
  Contract: the model's l1Into, over a slice of the call's own.
-/
import Derived.Test.YtaoagikipbcjpaaSets
import Derived.Test.YtaoagikipbcjpaaByte
namespace Go.Proofs.Ytaoagikipbcjpaa
section
open Go.RowKit

/-- How many elements stand ahead of x. -/
def lowK : List Int → Int → Nat
  | [], _ => 0
  | z :: r, x => if z < x then lowK r x + 1 else 0

theorem lowK_at : ∀ (zs : List Int) (x : Int) (k : Nat), k ≤ zs.length → (∀ j, j < k → nth zs j < x) → (k < zs.length → ¬ nth zs k < x) → lowK zs x = k
  | [], _, k, hk, _, _ => by simp at hk; subst hk; rfl
  | z :: r, x, 0, _, _, h => by
    have h0 : ¬ z < x := by simpa [nth] using h (by simp)
    simp [lowK, h0]
  | z :: r, x, k + 1, hk, hl, h => by
    have h0 : z < x := by simpa [nth] using hl 0 (by omega)
    have ih := lowK_at r x k (by simpa using hk) (fun j hj => by simpa [nth] using hl (j + 1) (by omega)) (fun hj => by simpa [nth] using h (by simpa using hj))
    simp [lowK, h0, ih]

/-- What l1Into hands back. -/
def intoL (zs : List Int) (x : Int) : List Int := if lowK zs x < zs.length ∧ nth zs (lowK zs x) = x then zs else zs.take (lowK zs x) ++ x :: zs.drop (lowK zs x)

theorem intoL_same {zs : List Int} {x : Int} {k : Nat} (hk : k < zs.length) (hl : ∀ j, j < k → nth zs j < x) (h : nth zs k = x) : intoL zs x = zs := by
  have e := lowK_at zs x k (by omega) hl (fun _ => by omega)
  unfold intoL; rw [e, if_pos ⟨hk, h⟩]
theorem intoL_new {zs : List Int} {x : Int} {k : Nat} (hk : k ≤ zs.length) (hl : ∀ j, j < k → nth zs j < x) (h : k < zs.length → x < nth zs k) : intoL zs x = zs.take k ++ x :: zs.drop k := by
  have e := lowK_at zs x k hk hl (fun hk => by have := h hk; omega)
  unfold intoL; rw [e, if_neg (fun ⟨h1, h2⟩ => by have := h h1; omega)]
theorem intoL_len (zs : List Int) (x : Int) : (intoL zs x).length ≤ zs.length + 1 := by
  unfold intoL; split
  · omega
  · simp; omega
theorem intoL_mem {zs : List Int} {x y : Int} : y ∈ intoL zs x ↔ y ∈ zs ∨ y = x := by
  unfold intoL; split
  · rename_i h
    constructor
    · exact Or.inl
    · rintro (h1 | rfl)
      · exact h1
      · rw [← h.2]; exact nth_mem h.1
  · have : y ∈ zs ↔ y ∈ zs.take (lowK zs x) ∨ y ∈ zs.drop (lowK zs x) := by
      rw [← List.mem_append, List.take_append_drop]
    rw [List.mem_append, List.mem_cons, this]
    constructor
    · rintro (h | rfl | h)
      · exact .inl (.inl h)
      · exact .inr rfl
      · exact .inl (.inr h)
    · rintro ((h | h) | rfl)
      · exact .inl h
      · exact .inr (.inr h)
      · exact .inr (.inl rfl)
theorem intoL_fits {zs : List Int} {x : Int} (h : ∀ k, k < zs.length → Fits (nth zs k)) (hx : Fits x) : ∀ k, k < (intoL zs x).length → Fits (nth (intoL zs x) k) := fun k hk => by
  rcases intoL_mem.1 (nth_mem hk) with hm | e
  · obtain ⟨j, hj, e⟩ := mem_nth.1 hm
    rw [← e]; exact h j hj
  · rw [e]; exact hx

theorem IntsAt.take {w : World} {a : Option Addr} {zs : List Int} (h : IntsAt w a zs) (k : Nat) (hk : k ≤ zs.length) : IntsAt w a (zs.take k) := by
  have hl : (zs.take k).length = k := by simp; omega
  have hn : ∀ j, j < k → nth (zs.take k) j = nth zs j := fun j hj => by simp [nth, hj]
  refine ⟨by rw [hl]; have := h.len; omega, fun j hj => ?_, fun h0 => ?_⟩
  · rw [hl] at hj; rw [hn j hj]; exact h.fits j (by omega)
  · rw [hl] at h0
    obtain ⟨b, off, ha, hc⟩ := h.cell (by omega)
    exact ⟨b, off, ha, fun j hj => by rw [hl] at hj; rw [hn j hj]; exact hc j (by omega)⟩

theorem news_drop {w : World} {g : Nat} {zs : List Int} (h : IntsAt w (some ⟨g, 0, none⟩) zs) (k : Nat) : ∀ j u, ((zs.drop k).map (Value.int .i64))[j]? = some u → w.cell? ((⟨g, k, none⟩ : Addr).add j) = some u := by
  intro j u hu
  have hj : j < (zs.drop k).length := by
    rcases Nat.lt_or_ge j (zs.drop k).length with h | h
    · exact h
    · simp only [List.getElem?_map, List.getElem?_eq_none h] at hu; cases hu
  have hl : (zs.drop k).length = zs.length - k := List.length_drop
  obtain ⟨b, off, ha, hc⟩ := h.cell (by omega)
  cases ha
  have hcj := hc (k + j) (by omega)
  rw [Nat.zero_add] at hcj
  rw [Go.WideShapes.add_plain, hcj]
  rw [List.getElem?_map, List.getElem?_eq_getElem hj] at hu
  rw [← hu]
  have : (zs.drop k)[j] = nth zs (k + j) := by rw [List.getElem_drop, nth_eq (by omega)]
  rw [this]; rfl

theorem into_own {w : World} {B k : Nat} {v : Value} {zs : List Int} {x : Int} (hk : k ≤ zs.length) (h : w.ownsRow B 2 1 v (k + 1 + (zs.length - k)) (List.take k (zs.map (Value.int .i64)) ++ .int .i64 x :: List.drop k (zs.map (Value.int .i64)))) :
    w.ownsRow B 2 1 v (zs.take k ++ x :: zs.drop k).length ((zs.take k ++ x :: zs.drop k).map (Value.int .i64)) := by
  have e : (zs.take k ++ x :: zs.drop k).length = k + 1 + (zs.length - k) := by simp; omega
  rw [e]
  simpa using h

/-- A slice of the call's own, that gives way to another one. -/
def GivesOwn (w : World) (B : Nat) (zs : List Int) (e : Ending) (w' : World) : Prop :=
  ∃ u, e = .returned u ∧ OwnInts w' B w'.heap.size u zs ∧ Below w.heap.size w w'

set_option maxHeartbeats 2000000 in
set_option maxRecDepth 100000 in
theorem l1Into_is {w : World} {B D : Nat} {v : Value} {zs : List Int} {x : Int} (h : OwnInts w B D v zs) (hB : B ≤ w.heap.size) (hl : zs.length ≤ 1048576) (hx : Fits x) :
    Calls Try.prog 34 #[v, .int .i64 x] w (GivesOwn w B (intoL zs x)) := by
  obtain ⟨i0, hi, hz0, hz1, hz2⟩ := info_parts info_int
  have HI := Lib.hid h
  have HX := Lib.hid hx
  unfold Fits at hx
  rcases h.own.2 with ⟨hv, h0⟩ | ⟨g, cap, cur, hv, hg, hbk, hnc, hm, hcs, ht⟩
  · have hz : zs = [] := List.length_eq_zero_iff.1 h0
    subst hz
    subst hv
    have HC : Hid (Calls Try.prog 33 #[.slice none 0 0] w (GivesInts w [])) := l1Copy_is (zs := []) 0 ⟨by simp, fun k hk => absurd hk (by simp), fun hp => absurd hp (by simp)⟩
    clear h h0
    go_enter Try.func34, Try.ntmps34
    go_wp2
    go_loop [5] (fun i => i = .int .i64 0) (fun _ => 0)
    case atStart => rfl
    case round =>
      subst hrel
      go_wp2_with (first
        | (go_at_call 33; refine HC.out.mono ?_; rintro e w1 ⟨u, rfl, hu, hb⟩; have HU := Lib.hid hu; have HB := Lib.hid hb; have hsz := hb.size; clear hu hb)
        | (at_builtin; refine wpList_append_own_at _ rfl _ _ 27 rfl w.heap.size 2 i0 (.int .i64 0) 1 8 Try.underlying27 hi hz0 hz1 hz2 rfl (by decide) _ _ _ rfl (HU.out.own.alloc _) ⟨w1.heap.size, 0, none⟩ 1 1 [.int .i64 x] rfl rfl ?c1 ?c2 ?c3 ?c4 ?c5 ?_))
      case c1 => exact cell_one_new _ _ _
      case c2 => intro u hu; simp at hu; subst hu; rfl
      case c3 => unfold maxLen; simp
      case c4 => simp
      case c5 => simp; omega
      · intro v' w2 hown' hgrow _ _
        have HOn : Hid (w2.ownsRow w.heap.size 2 1 v' 1 [.int .i64 x]) := Lib.hid (by simpa using hown')
        have HBn := Lib.hid ((HB.out.alloc hsz (.cells #[.int .i64 x] 2)).grown hgrow (by simp; omega) (fun g hg => (HU.out.own.lt g hg).1))
        clear hown' hgrow
        go_wp2_with (at_builtin; refine wpList_append_nil rfl _ _ 27 rfl w.heap.size 2 i0 1 Try.underlying27 hi _ _ _ rfl HOn.out _ rfl ?_)
        go_ret
        have e : intoL [] x = [x] := intoL_new (k := 0) (by simp) (fun j hj => absurd hj (by omega)) (fun h => absurd h (by simp))
        refine ⟨_, rfl, ?_, HBn.out⟩
        rw [e]
        exact (OwnInts.mk' (zs := [x]) HOn.out (by simp) (fun k hk => by have : k = 0 := by simp at hk; omega
                                                                         subst this; exact HX.out)).base hB
  · subst hv
    obtain ⟨a', cap', hva, hia, _⟩ := h.shape
    cases hva
    have HA := Lib.hid hia
    clear hia h
    go_enter Try.func34, Try.ntmps34
    go_wp2
    go_loop [5] (fun i => ∃ k : Nat, k ≤ zs.length ∧ i = .int .i64 k ∧ Hid (∀ j, j < k → nth zs j < x)) (fun i => zs.length - (intOf i).toNat)
    case atStart => exact ⟨0, Nat.zero_le _, rfl, fun j hj => absurd hj (Nat.not_lt_zero _)⟩
    case round =>
      obtain ⟨k, hk, rfl, HK⟩ := hrel
      by_cases hlt : k < zs.length
      · obtain ⟨b, off, ha, hc⟩ := HA.out.cell (by omega)
        cases ha
        have hck := hc k hlt
        rw [Nat.zero_add] at hck
        clear hc
        by_cases hlx : nth zs k < x
        · have HK' : Hid (∀ j, j < k + 1 → nth zs j < x) := fun j hj => by
            by_cases e : j = k
            · subst e; exact hlx
            · exact HK.out j (by omega)
          go_wp2
          go_round
          case rel => exact ⟨k + 1, by omega, by go_num, HK'⟩
          case measure => simp [intOf]; omega
        · by_cases he : nth zs k = x
          · have HE : Hid (intoL zs x = zs) := intoL_same hlt HK.out he
            have hb : (nth zs k == x) = true := by simp [he]
            clear he
            go_wp2
            go_ret
            exact ⟨_, rfl, by rw [HE.out]; exact HI.out.retop, Below.refl _ _⟩
          · have hb : (nth zs k == x) = false := by simp [he]
            have HC : Hid (Calls Try.prog 33 #[.slice (some ⟨g, 0, none⟩) k cap] w (GivesInts w (zs.take k))) := by
              have hc := l1Copy_is cap (HA.out.take k hk)
              rw [List.length_take_of_le hk] at hc
              exact hc
            have HE : Hid (intoL zs x = zs.take k ++ x :: zs.drop k) := intoL_new hk HK.out (fun _ => by omega)
            have hkc : k ≤ cap := by omega
            have hlt1 : (zs.take k).length = k := List.length_take_of_le hk
            clear he
            go_wp2_with (first
              | (go_at_call 33; refine HC.out.mono ?_; rintro e w1 ⟨u, rfl, hu, hb⟩; have HU := Lib.hid hu; have HB := Lib.hid hb; have hsz := hb.size; clear hu hb)
              | (at_builtin; refine wpList_append_own_at _ rfl _ _ 27 rfl w.heap.size 2 i0 (.int .i64 0) 1 8 Try.underlying27 hi hz0 hz1 hz2 rfl (by decide) _ _ _ rfl (HU.out.own.alloc _) ⟨w1.heap.size, 0, none⟩ 1 1 [.int .i64 x] rfl rfl ?c1 ?c2 ?c3 ?c4 ?c5 ?_))
            case c1 => exact cell_one_new _ _ _
            case c2 => intro u hu; simp at hu; subst hu; rfl
            case c3 => unfold maxLen; omega
            case c4 => omega
            case c5 => simp; omega
            · intro v' w2 hown' hgrow _ _
              have HOn := Lib.hid hown'
              have HBn := Lib.hid ((HB.out.alloc hsz (.cells #[.int .i64 x] 2)).grown hgrow (by simp; omega) (fun g hg => (HU.out.own.lt g hg).1))
              clear hown' hgrow
              go_wp2_with (at_builtin; refine wpList_append_own_at _ rfl _ _ 27 rfl w.heap.size 2 i0 (.int .i64 0) 1 8 Try.underlying27 hi hz0 hz1 hz2 rfl (by decide) _ _ _ rfl HOn.out ⟨g, k, none⟩ (zs.length - k) (cap - k) ((zs.drop k).map (Value.int .i64)) rfl ?d0 ?d1 ?d2 ?d3 ?d4 ?d5 ?_)
              case d0 => simp
              case d1 => exact news_drop (HA.out.below HBn.out) k
              case d2 => exact one_of _
              case d3 => unfold maxLen; omega
              case d4 => omega
              case d5 => exact HBn.out.size
              · intro v3 w3 hown3 hgrow3 _ _
                have HO3 := Lib.hid (into_own hk (by simpa [hlt1] using hown3))
                have HB3 := Lib.hid (HBn.out.grown hgrow3 HBn.out.size (fun g hg => (HOn.out.lt g hg).1))
                clear hown3 hgrow3
                go_wp2
                go_ret
                refine ⟨_, rfl, ?_, HB3.out⟩
                rw [HE.out]
                refine (OwnInts.mk' HO3.out (by simp; omega) (by rw [← HE.out]; exact intoL_fits HI.out.fits HX.out)).base hB
      · by_cases hcc : cap = k
        · subst hcc
          have HC : Hid (Calls Try.prog 33 #[.slice (some ⟨g, 0, none⟩) cap cap] w (GivesInts w (zs.take cap))) := by
            have hc := l1Copy_is cap (HA.out.take cap hk)
            rw [List.length_take_of_le hk] at hc
            exact hc
          have HE : Hid (intoL zs x = zs.take cap ++ x :: zs.drop cap) := intoL_new hk HK.out (fun h => absurd h hlt)
          have hkc : cap ≤ cap := by omega
          have hkk : ¬ (cap : Int) < zs.length := by omega
          have hlt1 : (zs.take cap).length = cap := List.length_take_of_le hk
          go_wp2_with (first
            | (go_at_call 33; refine HC.out.mono ?_; rintro e w1 ⟨u, rfl, hu, hb⟩; have HU := Lib.hid hu; have HB := Lib.hid hb; have hsz := hb.size; clear hu hb)
            | (at_builtin; refine wpList_append_own_at _ rfl _ _ 27 rfl w.heap.size 2 i0 (.int .i64 0) 1 8 Try.underlying27 hi hz0 hz1 hz2 rfl (by decide) _ _ _ rfl (HU.out.own.alloc _) ⟨w1.heap.size, 0, none⟩ 1 1 [.int .i64 x] rfl rfl ?c1 ?c2 ?c3 ?c4 ?c5 ?_))
          case c1 => exact cell_one_new _ _ _
          case c2 => intro u hu; simp at hu; subst hu; rfl
          case c3 => unfold maxLen; omega
          case c4 => omega
          case c5 => simp; omega
          · intro v' w2 hown' hgrow _ _
            have HOn := Lib.hid hown'
            have HBn := Lib.hid ((HB.out.alloc hsz (.cells #[.int .i64 x] 2)).grown hgrow (by simp; omega) (fun g hg => (HU.out.own.lt g hg).1))
            clear hown' hgrow
            go_wp2_with (at_builtin; refine wpList_append_own_at _ rfl _ _ 27 rfl w.heap.size 2 i0 (.int .i64 0) 1 8 Try.underlying27 hi hz0 hz1 hz2 rfl (by decide) _ _ _ rfl HOn.out ⟨g, 0, none⟩ _ _ [] rfl ?d0 ?d1 ?d2 ?d3 ?d4 ?d5 ?_)
            case d0 => simp
            case d1 => intro j u hu; simp at hu
            case d2 => intro u hu; simp at hu
            case d3 => unfold maxLen; omega
            case d4 => omega
            case d5 => exact HBn.out.size
            · intro v3 w3 hown3 hgrow3 _ _
              have hd : zs.drop cap = [] := List.drop_eq_nil_of_le (by omega)
              have h0 : zs.length - cap = 0 := by omega
              have HO3 := Lib.hid (into_own hk (by rw [← List.map_drop, hd]; rw [h0]; simpa [hlt1] using hown3))
              have HB3 := Lib.hid (HBn.out.grown hgrow3 HBn.out.size (fun g hg => (HOn.out.lt g hg).1))
              clear hown3 hgrow3 hd h0
              go_wp2
              go_ret
              refine ⟨_, rfl, ?_, HB3.out⟩
              rw [HE.out]
              refine (OwnInts.mk' HO3.out (by simp; omega) (by rw [← HE.out]; exact intoL_fits HI.out.fits HX.out)).base hB
        · have HC : Hid (Calls Try.prog 33 #[.slice (some ⟨g, 0, none⟩) k cap] w (GivesInts w (zs.take k))) := by
            have hc := l1Copy_is cap (HA.out.take k hk)
            rw [List.length_take_of_le hk] at hc
            exact hc
          have HE : Hid (intoL zs x = zs.take k ++ x :: zs.drop k) := intoL_new hk HK.out (fun h => absurd h hlt)
          have hkc : k ≤ cap := by omega
          have hkk : ¬ (k : Int) < zs.length := by omega
          have hlt1 : (zs.take k).length = k := List.length_take_of_le hk
          go_wp2_with (first
            | (go_at_call 33; refine HC.out.mono ?_; rintro e w1 ⟨u, rfl, hu, hb⟩; have HU := Lib.hid hu; have HB := Lib.hid hb; have hsz := hb.size; clear hu hb)
            | (at_builtin; refine wpList_append_own_at _ rfl _ _ 27 rfl w.heap.size 2 i0 (.int .i64 0) 1 8 Try.underlying27 hi hz0 hz1 hz2 rfl (by decide) _ _ _ rfl (HU.out.own.alloc _) ⟨w1.heap.size, 0, none⟩ 1 1 [.int .i64 x] rfl rfl ?c1 ?c2 ?c3 ?c4 ?c5 ?_))
          case c1 => exact cell_one_new _ _ _
          case c2 => intro u hu; simp at hu; subst hu; rfl
          case c3 => unfold maxLen; omega
          case c4 => omega
          case c5 => simp; omega
          · intro v' w2 hown' hgrow _ _
            have HOn := Lib.hid hown'
            have HBn := Lib.hid ((HB.out.alloc hsz (.cells #[.int .i64 x] 2)).grown hgrow (by simp; omega) (fun g hg => (HU.out.own.lt g hg).1))
            clear hown' hgrow
            go_wp2_with (at_builtin; refine wpList_append_own_at _ rfl _ _ 27 rfl w.heap.size 2 i0 (.int .i64 0) 1 8 Try.underlying27 hi hz0 hz1 hz2 rfl (by decide) _ _ _ rfl HOn.out ⟨g, k, none⟩ (zs.length - k) (cap - k) [] rfl ?d0 ?d1 ?d2 ?d3 ?d4 ?d5 ?_)
            case d0 => simp; omega
            case d1 => intro j u hu; simp at hu
            case d2 => intro u hu; simp at hu
            case d3 => unfold maxLen; omega
            case d4 => omega
            case d5 => exact HBn.out.size
            · intro v3 w3 hown3 hgrow3 _ _
              have hd : zs.drop k = [] := List.drop_eq_nil_of_le (by omega)
              have HO3 := Lib.hid (into_own hk (by rw [← List.map_drop, hd]; simpa [hlt1] using hown3))
              have HB3 := Lib.hid (HBn.out.grown hgrow3 HBn.out.size (fun g hg => (HOn.out.lt g hg).1))
              clear hown3 hgrow3 hd
              go_wp2
              go_ret
              refine ⟨_, rfl, ?_, HB3.out⟩
              rw [HE.out]
              refine (OwnInts.mk' HO3.out (by simp; omega) (by rw [← HE.out]; exact intoL_fits HI.out.fits HX.out)).base hB
end

section
open Go.RowKit

/-- The bytes of a slice. -/
structure BytesAt (w : World) (a : Option Addr) (bs : List Int) : Prop where
  len : bs.length ≤ 140737488355328
  byt : ∀ k, k < bs.length → ∃ b off, a = some ⟨b, off, none⟩ ∧ w.cell? ⟨b, off + k, none⟩ = some (.int .u8 (nth bs k)) ∧ 0 ≤ nth bs k ∧ nth bs k ≤ 255

theorem Only.new {S T : Nat → Prop} {a b c : World} (h : Only S a b) (k : Only T b c) (ht : ∀ x, T x → S x ∨ a.heap.size ≤ x) : Only S a c :=
  ⟨k.os.trans h.os, k.tape.trans h.tape, k.output.trans h.output, Nat.le_trans h.size k.size, fun i hi hs => (k.block i (Nat.lt_of_lt_of_le hi h.size) (fun hT => by
    rcases ht i hT with h1 | h1
    · exact hs h1
    · omega)).trans (h.block i hi hs)⟩

/-- A literal row. -/
theorem ints_new (w : World) (t : TypeId) (L : List Int) (hl : L.length ≤ 4096) (hf : ∀ z ∈ L, Fits z) : IntsAt (w.alloc (.cells (L.map (Value.int .i64)).toArray t)) (some ⟨w.heap.size, 0, none⟩) L :=
  ⟨by omega, fun k hk => hf _ (nth_mem hk), fun _ => ⟨_, 0, rfl, fun k hk => by
    have h0 := heap_alloc_new w (.cells (L.map (Value.int .i64)).toArray t)
    simp only [World.cell?, h0, Nat.zero_add]
    simp [hk, nth_eq hk]⟩⟩

theorem IntsAt.only {w w' : World} {S : Nat → Prop} {b : Nat} {zs : List Int} (h : IntsAt w (some ⟨b, 0, none⟩) zs) (hk : Only S w w') (hb : b < w.heap.size) (hs : ¬ S b) : IntsAt w' (some ⟨b, 0, none⟩) zs :=
  ⟨h.len, h.fits, fun h0 => by
    obtain ⟨b', off, ha, hc⟩ := h.cell h0
    cases ha
    exact ⟨b, 0, rfl, fun k hk' => by
      rw [World.cell?_of_block (w := w) (hk.block b hb hs)]
      exact hc k hk'⟩⟩

theorem OwnInts.snoc {w : World} {B D : Nat} {v v' : Value} {zs : List Int} {x : Int} {w' : World} (h : OwnInts w B D v zs) (hx : Fits x) (hl : zs.length ≤ 1048576) (ho : w'.ownsRow B 2 1 v' (zs.length + 1) (zs.map (Value.int .i64) ++ [.int .i64 x])) : OwnInts w' B w'.heap.size v' (zs ++ [x]) := by
  refine OwnInts.mk' (by simpa using ho) (by simp; omega) fun k hk => ?_
  have hm := nth_mem hk
  generalize nth (zs ++ [x]) k = y at hm
  rcases List.mem_append.1 hm with hm | hm
  · obtain ⟨j, hj, e⟩ := mem_nth.1 hm
    rw [← e]; exact h.fits j hj
  · simp at hm; rw [hm]; exact hx

end

end Go.Proofs.Ytaoagikipbcjpaa
