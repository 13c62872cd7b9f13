import Derived.Deep.RegionHeld3
import Derived.Test.YtglbkbiphcgidaaDoorPm00
import Derived.Test.YtglbkbiphcgidaaDoorPm02
import Derived.Test.YtglbkbiphcgidaaDoorPm01
import Derived.Test.YtglbkbiphcgidaaDoorPm03
namespace Go.Proofs.YtglbkbiphcgidaaDoor
section
open Go.RowKit
def allI (n : Nat) : Nat → Bool := fun v => decide (v < n)
noncomputable def oG (ah : List (List Int)) (O P : List Int) : Nat → Bool := dO ah O (nth P) ah.length (allI ah.length)
section
variable {ah : List (List Int)} {O P : List Int}
theorem tK (h : lJ O ah) {v : Nat} (hv : v < ah.length) : (nth O v = 0 ∨ nth O v = 1) ∧ 1 ≤ (row ah v).length ∧ (row ah v).length ≤ 16 := by
 have h1 := h.2.2.2 v (by rw [← h.2.2.1]; exact hv)
 exact ⟨h1.1, h1.2.1, h1.2.2.1⟩
theorem aai (h : lJ O ah) : fE ah (allI ah.length) := fun v hv _ => by
 have h1 := tK h hv
 have hm := jo (zs := row ah v) (k := 0) (by omega)
 obtain ⟨u, hu, hun⟩ := (jL h).eu v hv _ hm
 exact ⟨_, hm, by rw [hu, Int.toNat_natCast]; simp [allI, hun]⟩
theorem won_holds (h : lJ O ah) (hl : P.length = O.length) (hp : ∀ x ∈ P, 0 ≤ x) :
 (∃ s, dF ah O (nth P) (allI ah.length) (dK 0 (allI ah.length) (oG ah O P)) 0 s) ∧ ∃ s, dF ah O (nth P) (allI ah.length) (dK 1 (allI ah.length) (oG ah O P)) 1 s :=
 winZ_holds (jL h).eu (fun v hv => (tK h hv).1) (fun v hv => hp _ (jo (by have := h.2.2.1; omega))) _ _ (fun v hv => by simpa [allI] using hv) (sV _ _) (aai h)
theorem afI {who : Int} {win : Nat → Bool} {v : Nat} (hv : v < ah.length) : dK who (allI ah.length) win v = (win v == decide (who = 0)) := by
 unfold dK allI; simp [hv]
end
end
section
open Go.RowKit
theorem Dl {n v : Nat} (h : v < n) : nth (List.replicate n (-1 : Int)) v = -1 := by simp [nth, h]
theorem afJ {w : World} {k n : Nat} (h : w.rowIs k 2 n (fun _ => .int .i64 (-1))) (hn : n ≤ 256) : aV w (some ⟨k, 0, none⟩) (List.replicate n (-1)) := by
 refine ⟨by simp; omega, fun j hj => ?_, fun _ => ⟨k, 0, rfl, fun j hj => ?_⟩⟩
 · have hj' : j < n := by simpa using hj
   rw [Dl hj']; unfold Fits; omega
 · have hj' : j < n := by simpa using hj
   rw [Nat.zero_add, Dl hj']
   exact h.cell hj'
theorem afK {ah : List (List Int)} : bU ah (List.replicate ah.length (-1)) = ah := by
 refine List.ext_getElem (by rw [dQ]) fun v h1 h2 => ?_
 have e1 : (bU ah (List.replicate ah.length (-1)))[v] = row (bU ah (List.replicate ah.length (-1))) v := by simp [row, h1]
 have e2 : ah[v] = row ah v := by simp [row, h2]
 rw [e1, e2, jM h2]
 refine List.filter_eq_self.2 fun x _ => ?_
 unfold jX
 rw [Dl h2]; rfl
theorem afL {n : Nat} : ∀ x ∈ wH n, ∃ u : Nat, x = (u : Int) ∧ u < n := fun x hx => by
 obtain ⟨k, hk, e⟩ := rF.1 hx
 rw [Fh] at hk
 rw [Rf hk] at e
 exact ⟨k, e.symm, hk⟩
theorem aaj {n : Int} : ∀ (zs : List Int) (l : Int), zs.Pairwise (· < ·) → (∀ x ∈ zs, l < x ∧ x < n) → jE n l zs = true
 | [], _, _, _ => rfl
 | z :: r, l, hp, hb => by
   obtain ⟨h1, h2⟩ := List.pairwise_cons.1 hp
   have hz := hb z (by simp)
   rw [jE, decide_eq_true hz]
   exact aaj r z h2 fun x hx => ⟨h1 x hx, (hb x (by simp [hx])).2⟩
theorem aak {w : World} {B g n : Nat} {V : Nat → Value} {R : Nat → List Int} (h : fU w B g n V R) (hn : n ≤ 256) : dU w (some ⟨g, 0, none⟩) (fun k => addrOf (V k)) (fun k => capOf (V k)) (rowsOf n R) := by
 have hl := oV n R
 refine ⟨by omega, fun _ => ⟨g, 0, rfl, fun k hk => ?_⟩, fun k hk => ?_⟩
 · rw [hl] at hk
   obtain ⟨a, cap, hv, _, _⟩ := (h.rows k hk).shape
   rw [vY hk, Nat.zero_add, h.own.cellAt k (by omega)]
   simp [hk, hv, addrOf, capOf]
 · rw [hl] at hk
   obtain ⟨a, cap, hv, hi, _⟩ := (h.rows k hk).shape
   rw [vY hk, hv]
   exact hi
theorem afM {w : World} {B B' q n : Nat} {V : Nat → Value} {R : Nat → List Int} (h : fU w B q n V R) (hB : B' ≤ B) : fU w B' q n V R :=
 ⟨ownsRow_base h.own hB, fun u hu => (h.rows u hu).base hB, h.apart⟩
end
end Go.Proofs.YtglbkbiphcgidaaDoor
namespace Go.Proofs.YtglbkbiphcgidaaDoor
section
open Go.RowKit
theorem afN {k : Nat} : List.replicate (k + 1) (-1 : Int) = List.replicate k (-1) ++ [-1] := by
 rw [List.replicate_succ']
set_option maxHeartbeats 4000000 in
set_option maxRecDepth 100000 in
theorem afO {w : World} (n : Nat) (hn : n ≤ 1048576) :
 Calls Tryd.prog 69 #[.int .i64 n] w (sS w (List.replicate n (-1))) := by
 obtain ⟨i0, hi, hz0, hz1, hz2⟩ := info_parts qH
 obtain ⟨w1, hw1⟩ : ∃ y, y = w.alloc (.cells #[] 2) := ⟨_, rfl⟩
 have HW1 := Lib.hid hw1
 have K1 : Hid (Below w.heap.size w w1) := by rw [hw1]; exact aA _ _
 have O1 : Hid (w1.ownsRow w.heap.size 2 1 (.slice (some ⟨w.heap.size, 0, none⟩) 0 0) (List.replicate 0 (-1 : Int)).length ((List.replicate 0 (-1 : Int)).map (Value.int .i64))) := by rw [hw1]; exact World.ownsRow_made w #[] 0 (Nat.le_refl _) (by unfold maxLen; omega) rfl
 clear hw1
 go_enter Tryd.func69, Tryd.ntmps69
 go_wp2
 rw [← HW1.out]
 go_loopw [3, 4] (fun ov iv wr => ∃ (k : Nat) (uu : Value), uu = ov ∧ k ≤ n ∧ iv = .int .i64 k ∧ Hid (wr.ownsRow w.heap.size 2 1 ov (List.replicate k (-1 : Int)).length ((List.replicate k (-1 : Int)).map (Value.int .i64))) ∧ Hid (Below w.heap.size w wr)) (fun _ iv _ => n - (intOf iv).toNat)
 case atStart => exact ⟨0, _, rfl, Nat.zero_le _, rfl, O1, K1⟩
 case round =>
  clear O1 K1
  obtain ⟨k, uu, hu0, hk, rfl, HO, HK⟩ := hrel
  subst hu0
  have afP := HK.out.size
  have hll : (List.replicate k (-1 : Int)).length = k := by simp
  by_cases hlt : k < n
  · have hi1 : (k : Int) < n := by omega
    have hk0 : (0 : Int) ≤ (k : Int) := by omega
    have HST := Lib.hid (afN (k := k))
    go_wp2_with (at_builtin; refine wpList_append_own_at _ rfl _ _ 22 rfl w.heap.size 2 i0 (.int .i64 0) 1 8 Tryd.underlying22 hi hz0 hz1 hz2 rfl (by decide) _ _ _ rfl (HO.out.alloc _) ⟨wr.heap.size, 0, none⟩ 1 1 [.int .i64 (-1)] rfl rfl ?c1 ?c2 ?c3 ?c4 ?c5 ?_)
    try (case c1 => exact cell_one_new _ _ _)
    try (case c2 => first | rfl | (intro u hu; simp at hu; subst hu; rfl))
    case c3 => unfold maxLen; omega
    case c4 => omega
    case c5 => first | (simp; omega) | omega
    intro v' w5 hown hgrow _ _
    have hg : Only (fun b => w.heap.size ≤ b) wr w5 := (Only.of_below (aA wr _)).trans ((Only.dV hgrow).mono fun b hb => (HO.out.lt b hb).1)
    have Kn := Lib.hid (HK.out.trans (hg.below HK.out.size (fun _ h => h)))
    have yg : Hid (w5.ownsRow w.heap.size 2 1 v' (List.replicate (k + 1) (-1 : Int)).length ((List.replicate (k + 1) (-1 : Int)).map (Value.int .i64))) := by
     have e1 : (List.replicate (k + 1) (-1 : Int)).length = k + 1 := by simp
     have e2 : (List.replicate (k + 1) (-1 : Int)).map (Value.int .i64) = List.replicate k (Value.int .i64 (-1)) ++ [Value.int .i64 (-1)] := by rw [HST.out]; simp
     unfold Hid
     rw [e1, e2]
     exact hown
    clear hown hgrow hg
    go_wp2
    go_roundw
    case rel => exact ⟨k + 1, _, rfl, by omega, by go_num, yg, Kn⟩
    case measure => simp [intOf]; omega
  · have hi1 : ¬ (k : Int) < n := by omega
    have hkk : k = n := by omega
    rw [hkk] at HO
    have hfin := Lib.hid (aF.mk' HO.out (by simp; omega) (fun j hj => by
     have hj' : j < n := by simpa using hj
     rw [Dl hj']; unfold Fits; omega))
    clear hkk HO
    go_wp2
    go_ret
    exact ⟨_, rfl, hfin.out, HK.out⟩
set_option maxHeartbeats 4000000 in
set_option maxRecDepth 100000 in
theorem afQ {w : World} (n : Nat) (hn : n ≤ 1048576) :
 Calls Tryd.prog 100 #[.int .i64 n] w (tq w n (allI n)) := by
 have hmk := run_make_row' (P := Tryd.prog) 63 4 (.bool false) 1 Tryd.underlying63 I7 rfl .i64 .i64 n (by omega) (by omega)
 have R0 : Hid ((w.alloc (.cells (madeCells #[.bool false] n) 4)).rowIs w.heap.size 4 n (bH (iG (allI n) 0))) := FM
 have B0 := Lib.hid (aA w (.cells (madeCells #[.bool false] n) 4))
 go_enter Tryd.func100, Tryd.ntmps100
 go_wp2
 go_loopw [4] (fun iv wr => ∃ k : Nat, k ≤ n ∧ iv = .int .i64 k ∧ Hid (wr.rowIs w.heap.size 4 n (bH (iG (allI n) k))) ∧ Hid (Below w.heap.size w wr)) (fun iv _ => n - (intOf iv).toNat)
 case atStart => exact ⟨0, Nat.zero_le _, rfl, R0, B0⟩
 case round =>
  clear hmk R0 B0
  obtain ⟨k, hk, rfl, HR, HB⟩ := hrel
  by_cases hlt : k < n
  · have hi1 : (k : Int) < n := by omega
    have hk0 : (0 : Int) ≤ (k : Int) := by omega
    have hcs := HR.out.cell hlt
    have hcf := HR.out.frozen k
    have R1 : Hid ((wr.setCell ⟨w.heap.size, k, none⟩ (.bool true)).rowIs w.heap.size 4 n (bH (iG (allI n) (k + 1)))) := tH HR.out (by simp [allI, hlt])
    have B1 := Lib.hid (HB.out.setCell (p := ⟨w.heap.size, k, none⟩) (Nat.le_refl _) (.bool true))
    go_wp2
    go_roundw
    case rel => exact ⟨k + 1, by omega, by go_num, R1, B1⟩
    case measure => simp [intOf]; omega
  · have hi1 : ¬ (k : Int) < n := by omega
    have hkk : k = n := by omega
    rw [hkk] at HR
    have HF := Lib.hid (FK HR.out)
    clear hkk HR
    go_wp2
    go_ret
    exact ⟨_, rfl, Nat.le_refl _, HF.out, HB.out⟩
def zY (X : List Int) (who : Int) : Nat → Bool := fun v => nth X v == who
set_option maxHeartbeats 4000000 in
set_option maxRecDepth 100000 in
theorem afR {w : World} {aX : Option Addr} {X : List Int} {who : Int} (cX : Nat) (hX : aV w aX X) (hn : X.length ≤ 1048576) :
 Calls Tryd.prog 54 #[.slice aX X.length cX, .int .i64 who] w (tq w X.length (zY X who)) := by
 have hmk := run_make_row' (P := Tryd.prog) 63 4 (.bool false) 1 Tryd.underlying63 I7 rfl .i64 .i64 X.length (by omega) (by omega)
 have HX := Lib.hid hX
 have R0 : Hid ((w.alloc (.cells (madeCells #[.bool false] X.length) 4)).rowIs w.heap.size 4 X.length (bH (iG (zY X who) 0))) := FM
 have B0 := Lib.hid (aA w (.cells (madeCells #[.bool false] X.length) 4))
 clear hX
 go_enter Tryd.func54, Tryd.ntmps54
 go_wp2
 go_loopw [6] (fun iv wr => ∃ k : Nat, k ≤ X.length ∧ iv = .int .i64 k ∧ Hid (wr.rowIs w.heap.size 4 X.length (bH (iG (zY X who) k))) ∧ Hid (Below w.heap.size w wr)) (fun iv _ => X.length - (intOf iv).toNat)
 case atStart => exact ⟨0, Nat.zero_le _, rfl, R0, B0⟩
 case round =>
  clear hmk R0 B0
  obtain ⟨k, hk, rfl, HR, HB⟩ := hrel
  by_cases hlt : k < X.length
  · have hi1 : (k : Int) < X.length := by omega
    have hk0 : (0 : Int) ≤ (k : Int) := by omega
    obtain ⟨xb, xo, hxa, hxc⟩ := (HX.out.below HB.out).cell (by omega)
    have x1 := hxc k hlt
    obtain ⟨q, hq⟩ : ∃ q, q = nth X k := ⟨_, rfl⟩
    rw [← hq] at x1
    have hcs := HR.out.cell hlt
    have hcf := HR.out.frozen k
    have R1 : Hid ((wr.setCell ⟨w.heap.size, k, none⟩ (.bool (q == who))).rowIs w.heap.size 4 X.length (bH (iG (zY X who) (k + 1)))) := tH HR.out (by unfold zY; rw [hq])
    have B1 := Lib.hid (HB.out.setCell (p := ⟨w.heap.size, k, none⟩) (Nat.le_refl _) (.bool (q == who)))
    subst hxa
    clear hxc hq
    go_wp2
    go_roundw
    case rel => exact ⟨k + 1, by omega, by go_num, R1, B1⟩
    case measure => simp [intOf]; omega
  · have hi1 : ¬ (k : Int) < X.length := by omega
    have hkk : k = X.length := by omega
    rw [hkk] at HR
    have HF := Lib.hid (FK HR.out)
    clear hkk HR
    go_wp2
    go_ret
    exact ⟨_, rfl, Nat.le_refl _, HF.out, HB.out⟩
theorem aal {X Y : List Int} (hl : X.length = Y.length) (h : ∀ j, j < X.length → nth X j = nth Y j) : X = Y := by
 apply List.ext_getElem hl
 intro i h1 h2
 have := h i h1
 rwa [jl h1, jl h2] at this
set_option maxHeartbeats 4000000 in
set_option maxRecDepth 100000 in
theorem afS {w : World} {aX aY : Option Addr} {X Y : List Int} {r : Bool} (cX cY : Nat) (hr : decide (X = Y) = r) (hX : aV w aX X) (hY : aV w aY Y) :
 Calls Tryd.prog 98 #[.slice aX X.length cX, .slice aY Y.length cY] w fun e w' => e = .returned (.bool r) ∧ Below w.heap.size w w' := by
 have HX := Lib.hid hX
 have HY := Lib.hid hY
 have hlX := hX.len
 have hlY := hY.len
 have HN : Hid (X ≠ Y → r = false) := fun h => by rw [← hr]; exact decide_eq_false h
 have HE : Hid (X = Y → r = true) := fun h => by rw [← hr]; exact decide_eq_true h
 clear hX hY hr
 by_cases hl : X.length = Y.length
 · have hl1 : ((X.length : Int) != (Y.length : Int)) = false := by simp; omega
   have hl2 : (X.length != Y.length) = false := by simp; omega
   have HL := Lib.hid hl
   clear hl
   go_enter Tryd.func98, Tryd.ntmps98
   go_wp2
   go_loopw [5] (fun iv wr => ∃ k : Nat, k ≤ X.length ∧ iv = .int .i64 k ∧ Hid (∀ j, j < k → nth X j = nth Y j) ∧ Hid (Below w.heap.size w wr)) (fun iv _ => X.length - (intOf iv).toNat)
   case atStart => exact ⟨0, Nat.zero_le _, rfl, fun j hj => absurd hj (Nat.not_lt_zero _), Below.refl _ _⟩
   case round =>
    obtain ⟨k, hk, rfl, HJ, HB⟩ := hrel
    by_cases hlt : k < X.length
    · have hi1 : (k : Int) < X.length := by omega
      have hk0 : (0 : Int) ≤ (k : Int) := by omega
      have hkY : k < Y.length := by have := HL.out; omega
      have hi2 : (k : Int) < Y.length := by omega
      obtain ⟨xb, xo, hxa, hxc⟩ := (HX.out.below HB.out).cell (by omega)
      obtain ⟨yb, yo, hya, zZ⟩ := (HY.out.below HB.out).cell (by omega)
      have x1 := hxc k hlt
      have y1 := zZ k hkY
      obtain ⟨x, hx⟩ : ∃ q, q = nth X k := ⟨_, rfl⟩
      obtain ⟨y, hy⟩ : ∃ q, q = nth Y k := ⟨_, rfl⟩
      rw [← hx] at x1
      rw [← hy] at y1
      have HXk := Lib.hid hx
      have HYk := Lib.hid hy
      subst hxa
      subst hya
      clear hxc zZ hx hy
      by_cases e : x = y
      · have he : (x != y) = false := by simpa using e
        have kP : Hid (∀ j, j < k + 1 → nth X j = nth Y j) := fun j hj => by
         by_cases h : j = k
         · subst h; rw [← HXk.out, ← HYk.out]; exact e
         · exact HJ.out j (by omega)
        clear e
        go_wp2
        go_quiet (fail)
        go_wp2
        go_roundw
        case rel => exact ⟨k + 1, by omega, by go_num, kP, below_drewN HB.out _⟩
        case measure => simp [intOf]; omega
      · have he : (x != y) = true := by simpa using e
        have HF : Hid (r = false) := HN.out fun h => e (by rw [HXk.out, HYk.out, h])
        clear e
        go_wp2
        go_quiet (fail)
        go_wp2
        go_ret
        exact ⟨dY HF.out.symm, below_drewN HB.out _⟩
    · have hi1 : ¬ (k : Int) < X.length := by omega
      have HF : Hid (r = true) := HE.out (aal HL.out fun j hj => HJ.out j (by omega))
      go_wp2
      go_ret
      exact ⟨dY HF.out.symm, HB.out⟩
 · have hl1 : ((X.length : Int) != (Y.length : Int)) = true := by simp; omega
   have hl2 : (X.length != Y.length) = true := by simp; omega
   have HF : Hid (r = false) := HN.out fun h => hl (by rw [h])
   clear hl
   go_enter Tryd.func98, Tryd.ntmps98
   go_wp2
   go_ret
   exact ⟨dY HF.out.symm, Below.refl _ _⟩
set_option maxHeartbeats 4000000 in
set_option maxRecDepth 100000 in
theorem aam {w : World} {a : Option Addr} {zs : List Int} {x : Int} {r : Bool} (hr : hasB zs x = r) (cap : Nat) (h : aV w a zs) :
 Calls Tryd.prog 116 #[.slice a zs.length cap, .int .i64 x] w fun e w' => e = .returned (.bool r) ∧ w = w' := by
 have H := Lib.hid h
 have hl := h.len
 have HN : Hid (x ∉ zs → r = false) := fun h => by rw [← hr]; unfold hasB; exact decide_eq_false h
 have HE : Hid (x ∈ zs → r = true) := fun h => by rw [← hr]; unfold hasB; exact decide_eq_true h
 clear h hr
 go_enter Tryd.func116, Tryd.ntmps116
 go_wp2
 go_loopw [5] (fun iv wr => ∃ k : Nat, k ≤ zs.length ∧ iv = .int .i64 k ∧ Hid (∀ j, j < k → nth zs j ≠ x) ∧ w = wr) (fun iv _ => zs.length - (intOf iv).toNat)
 case atStart => exact ⟨0, Nat.zero_le _, rfl, fun j hj => absurd hj (Nat.not_lt_zero _), rfl⟩
 case round =>
  obtain ⟨k, hk, rfl, HJ, rfl⟩ := hrel
  by_cases hlt : k < zs.length
  · have hi1 : (k : Int) < zs.length := by omega
    have hk0 : (0 : Int) ≤ (k : Int) := by omega
    obtain ⟨b, off, ha, hc⟩ := H.out.cell (by omega)
    have z1 := hc k hlt
    obtain ⟨z, hz⟩ : ∃ q, q = nth zs k := ⟨_, rfl⟩
    rw [← hz] at z1
    have HZ := Lib.hid hz
    subst ha
    clear hc hz
    by_cases e : z = x
    · have he : (z == x) = true := by simpa using e
      have HF : Hid (r = true) := HE.out (by rw [← e, HZ.out]; exact jo hlt)
      clear e
      go_wp2
      go_ret
      exact ⟨dY HF.out.symm, rfl⟩
    · have he : (z == x) = false := beq_eq_false_iff_ne.2 e
      have kP : Hid (∀ j, j < k + 1 → nth zs j ≠ x) := fun j hj => by
       by_cases h : j = k
       · subst h; rw [← HZ.out]; exact e
       · exact HJ.out j (by omega)
      clear e
      go_wp2
      go_roundw
      case rel => exact ⟨k + 1, by omega, by go_num, kP, by simp⟩
      case measure => simp [intOf]; omega
  · have hi1 : ¬ (k : Int) < zs.length := by omega
    have HF : Hid (r = false) := HN.out fun h => by
     obtain ⟨j, hj, e⟩ := rF.1 h
     exact HJ.out j (by omega) e
    go_wp2
    go_ret
    exact ⟨dY HF.out.symm, rfl⟩
noncomputable def fC (ah : List (List Int)) (O P Pk : List Int) (I : Nat → Bool) (who : Int) : Bool := !lN (fun v => I v && (dO (bU ah Pk) O (nth P) ah.length I v != decide (who = 0))) ah.length
theorem FZ {f : Nat → Bool} : ∀ {n : Nat}, lN f n = false ↔ ∀ v, v < n → f v = false
 | 0 => by simp [lN]
 | n + 1 => by
   rw [lN, Bool.or_eq_false_iff, FZ]
   constructor
   · rintro ⟨h1, h2⟩ v hv
     by_cases e : v = n
     · subst e; exact h2
     · exact h1 v (by omega)
   · exact fun h => ⟨fun v hv => h v (by omega), h n (by omega)⟩
set_option maxHeartbeats 4000000 in
set_option maxRecDepth 100000 in
theorem afT {ao ap an aq ak : Option Addr} {A : Nat → Option Addr} {C : Nat → Nat} {A' : Nat → Option Addr} {C' : Nat → Nat} {ah : List (List Int)} {O P Pk : List Int} (co cp cn cq ck : Nat)
 (hz : iO ah) (fM : O.length = ah.length) (hPl : P.length = ah.length) (hpk : Pk.length = ah.length) (ku : ah.length ≤ 256) (jZ : ∀ v, v < ah.length → (row ah v).length ≤ 16)
 {w : World} {I : Nat → Bool} {bI : Nat} {who : Int} {r : Bool} (hr : fC ah O P Pk I who = r) (hO : aV w ao O) (hP : aV w ap P) (hn : dU w an A C ah) (hq : dU w aq A' C' (rowsOf ah.length fun u => dN ah u ah.length)) (hk : aV w ak Pk) (hI : w.rowIs bI 4 ah.length (bH I)) :
 Calls Tryd.prog 101 #[.agg #[.slice ao O.length co, .slice ap P.length cp, .slice an ah.length cn, .slice aq ah.length cq, .slice ak Pk.length ck], .slice (some ⟨bI, 0, none⟩) ah.length ah.length, .int .i64 who] w fun e w' => e = .returned (.bool r) ∧ Below w.heap.size w w' := by
 obtain ⟨n, hnl⟩ : ∃ n, n = ah.length := ⟨_, rfl⟩
 obtain ⟨w1, hw1⟩ : ∃ y, y = w.alloc (.cells #[.slice ao O.length co, .slice ap P.length cp, .slice an ah.length cn, .slice aq ah.length cq, .slice ak Pk.length ck] 61) := ⟨_, rfl⟩
 have HW1 := Lib.hid hw1
 have B1 : Hid (Below w.heap.size w w1) := by rw [hw1]; exact aA _ _
 have X1 : eF w1 w.heap.size 61 (.slice ao O.length co) (.slice ap P.length cp) (.slice an ah.length cn) (.slice aq ah.length cq) (.slice ak Pk.length ck) := by rw [hw1]; exact eF.new _ _ _ _ _ _ _
 have x0 := X1.c0
 have x1 := X1.c1
 have x2 := X1.c2
 have x3 := X1.c3
 have x4 := X1.c4
 rw [hw1] at x0 x1 x2 x3 x4
 have HC := Lib.hid (TB co cp cn cq ck hz fM hPl hpk ku jZ ah.length (hO.below B1.out) (hP.below B1.out) (hn.below B1.out) (hq.below B1.out) (hk.below B1.out) (bY hI B1.out) (sV _ _))
 obtain ⟨F, hF⟩ : ∃ F, dO (bU ah Pk) O (nth P) ah.length I = F := ⟨_, rfl⟩
 rw [hF] at HC
 unfold fC at hr
 rw [hF] at hr
 obtain ⟨f, hf⟩ : ∃ f : Nat → Bool, f = fun v => I v && (F v != decide (who = 0)) := ⟨_, rfl⟩
 rw [← hf] at hr
 have HFF := Lib.hid hf
 have HY : Hid ((∀ v, v < n → f v = false) → r = true) := fun h => by rw [← hr, FZ.2 (by rw [← hnl]; exact h)]; rfl
 have HN : Hid (∀ v, v < n → f v = true → r = false) := fun v hv h => by
  rw [← hr]
  cases ha : lN f ah.length with
  | true => rfl
  | false => rw [FZ.1 ha v (by rw [← hnl]; exact hv)] at h; cases h
 have HI := Lib.hid hI
 rw [← hnl] at HC HI ku
 rw [← hnl] at x2 x3
 have aan := HW1
 rw [← hnl] at aan
 rw [← hnl]
 obtain ⟨nO, hnO⟩ : ∃ x, x = O.length := ⟨_, rfl⟩
 clear hw1 X1 hz fM hPl hpk jZ hr hO hP hn hq hk hI hF hf hnl
 go_enter Tryd.func101, Tryd.ntmps101
 go_wp2_with fail
 rw [← aan.out]
 refine HC.out.mono ?_
 rintro e w2 ⟨bF, rfl, hbF, hM, hb⟩
 have M2 := Lib.hid hM
 have K2 := Lib.hid (bY (bY HI.out B1.out) hb)
 have B2 := Lib.hid (B1.out.trans (hb.mono B1.out.size))
 clear hM hb hbF HC x0 x1 x2 x3 x4
 go_wp2
 go_loopw [8] (fun iv wr => ∃ k : Nat, k ≤ n ∧ iv = .int .i64 k ∧ Hid (∀ v, v < k → f v = false) ∧ Hid (Below w2.heap.size w2 wr)) (fun iv _ => n - (intOf iv).toNat)
 case atStart => exact ⟨0, Nat.zero_le _, rfl, fun j hj => absurd hj (Nat.not_lt_zero _), Below.refl _ _⟩
 case round =>
  obtain ⟨k, hk, rfl, HJ, HB⟩ := hrel
  have Bw := Lib.hid (B2.out.trans (HB.out.mono B2.out.size))
  by_cases hlt : k < n
  · have hi1 : (k : Int) < n := by omega
    have hk0 : (0 : Int) ≤ (k : Int) := by omega
    have i1 := (bY K2.out HB.out).cell hlt
    have f1 := (bY M2.out HB.out).cell hlt
    unfold bH at i1 f1
    have hfk : f k = (I k && (F k != decide (who = 0))) := by rw [HFF.out]
    have pz := Lib.hid hfk
    clear hfk
    cases Gf : I k with
    | false =>
      rw [Gf] at i1
      have kP : Hid (∀ v, v < k + 1 → f v = false) := fun v hv => by
       by_cases e : v = k
       · subst e; rw [pz.out, Gf]; rfl
       · exact HJ.out v (by omega)
      clear Gf
      go_wp2
      go_roundw
      case rel => exact ⟨k + 1, by omega, by go_num, kP, HB⟩
      case measure => simp [intOf]; omega
    | true =>
      rw [Gf] at i1
      obtain ⟨bw, hbw⟩ : ∃ b, (who == 0) = b := ⟨_, rfl⟩
      have hdw : decide (who = 0) = bw := by rw [← hbw]; rfl
      obtain ⟨bf, hbf⟩ : ∃ b, F k = b := ⟨_, rfl⟩
      rw [hbf] at f1
      have hfx : f k = (bf != bw) := by rw [pz.out, Gf, hbf, hdw]; rfl
      have Nw := Lib.hid hfx
      clear Gf hbf hfx hdw
      cases bf with
      | false =>
        cases bw with
        | false =>
          have kP : Hid (∀ v, v < k + 1 → f v = false) := fun v hv => by
           by_cases e : v = k
           · subst e; exact Nw.out
           · exact HJ.out v (by omega)
          go_wp2
          go_roundw
          case rel => exact ⟨k + 1, by omega, by go_num, kP, HB⟩
          case measure => simp [intOf]; omega
        | true =>
          have HR : Hid (r = false) := HN.out k hlt Nw.out
          go_wp2
          go_ret
          exact ⟨dY HR.out.symm, Bw.out⟩
      | true =>
        cases bw with
        | false =>
          have HR : Hid (r = false) := HN.out k hlt Nw.out
          go_wp2
          go_ret
          exact ⟨dY HR.out.symm, Bw.out⟩
        | true =>
          have kP : Hid (∀ v, v < k + 1 → f v = false) := fun v hv => by
           by_cases e : v = k
           · subst e; exact Nw.out
           · exact HJ.out v (by omega)
          go_wp2
          go_roundw
          case rel => exact ⟨k + 1, by omega, by go_num, kP, HB⟩
          case measure => simp [intOf]; omega
  · have hi1 : ¬ (k : Int) < n := by omega
    have HR : Hid (r = true) := HY.out fun v hv => HJ.out v (by omega)
    go_wp2
    go_ret
    exact ⟨dY HR.out.symm, Bw.out⟩
end
section
open Go.RowKit
noncomputable def dJ (ah : List (List Int)) (O P : List Int) : List Int := dZ ah.length fun v => if oG ah O P v = true then 0 else 1
theorem yh {ah : List (List Int)} {O P : List Int} : (dJ ah O P).length = ah.length := lK _ _
theorem Ny {ah : List (List Int)} {O P : List Int} {v : Nat} (h : v < ah.length) : nth (dJ ah O P) v = if oG ah O P v = true then 0 else 1 := zK h
theorem afU (b : Bool) (w : World) : Calls Tryd.prog 95 #[.bool b] w fun e w' => e = .returned (.int .i64 (if b = true then 1 else 0)) ∧ w = w' := by
 cases b with
 | false =>
   go_enter Tryd.func95, Tryd.ntmps95
   go_wp2
   go_ret
   exact ⟨rfl, rfl⟩
 | true =>
   go_enter Tryd.func95, Tryd.ntmps95
   go_wp2
   go_ret
   exact ⟨rfl, rfl⟩
set_option maxHeartbeats 16000000 in
set_option maxRecDepth 100000 in
theorem TP {w : World} {v : Value} {O : List Int} {ah : List (List Int)} {P : List Int} (h : gX w v O ah P) (hp : fZ O ah P = true) :
 Calls Tryd.prog 52 #[v] w (sS w (dJ ah O P)) := by
 obtain ⟨i0, hi, hz0, hz1, hz2⟩ := info_parts qH
 obtain ⟨ao, an, ap, co, cn, cp, A, C, rfl, h1, h2, h3⟩ := h
 obtain ⟨hA, Aa, Ac⟩ := iY.1 hp
 obtain ⟨n, hn⟩ : ∃ n, n = ah.length := ⟨_, rfl⟩
 have fM : O.length = n := by rw [hn]; exact hA.2.2.1.symm
 have hPl : P.length = n := by omega
 have x9 : n ≤ 256 := by have := hA.2.1; omega
 have hz := jL hA
 have HO7 : Hid (∀ W, Below w.heap.size w W → Calls Tryd.prog 53 #[.agg #[.slice ao n co, .slice an n cn, .slice ap n cp]] W (aae W ao an ap co cn cp n ah)) := fun W hb => by
  have h := afH co cn cp (h1.below hb) (h2.below hb) (h3.below hb) hA (by omega)
  rw [fM, hPl, ← hn] at h; exact h
 have aao : Hid (∀ W q k bI V, Below w.heap.size w W → fU W w.heap.size q n V (fun u => dN ah u n) → W.rowIs k 2 n (fun _ => .int .i64 (-1)) → W.rowIs bI 4 n (bH (allI n)) →
  Calls Tryd.prog 99 #[.agg #[.slice ao n co, .slice ap n cp, .slice an n cn, .slice (some ⟨q, 0, none⟩) n n, .slice (some ⟨k, 0, none⟩) n n], .slice (some ⟨bI, 0, none⟩) n n] W (tq W n (oG ah O P))) := fun W q k bI V hb hq hk hM => by
  have hq' := aak hq x9
  rw [hn] at hk hM hq' x9
  have h := TB (Pk := List.replicate ah.length (-1)) co cp cn n n hz (by omega) (by omega) (by simp) x9 (fun v hv => (tK hA hv).2.2) ah.length (h1.below hb) (h3.below hb) (h2.below hb) hq' (afJ hk x9) hM (sV _ _)
  rw [afK, List.length_replicate, fM, hPl, ← hn] at h
  unfold oG
  rw [← hn]
  exact h
 have HAl : Hid (∀ W : World, Calls Tryd.prog 100 #[.int .i64 n] W (tq W n (allI n))) := fun W => afQ n (by omega)
 obtain ⟨F, hF⟩ : ∃ F, F = oG ah O P := ⟨_, rfl⟩
 obtain ⟨L, hL⟩ : ∃ L, L = dJ ah O P := ⟨_, rfl⟩
 have HLN : Hid (∀ k, dZ k (fun v => if F v = true then (0 : Int) else 1) = dZ k (fun v => if F v = true then (0 : Int) else 1)) := fun _ => rfl
 have HLL : Hid (L = dZ n fun v => if F v = true then 0 else 1) := by rw [hL, hF, hn]; rfl
 rw [← hF] at aao
 rw [← hL, fM, hPl, ← hn]
 clear hF hL h1 h2 h3 hA Aa Ac hp hz fM hPl hn
 obtain ⟨w1, hw1⟩ : ∃ y, y = w.alloc (.cells #[.slice ao n co, .slice an n cn, .slice ap n cp] 35) := ⟨_, rfl⟩
 have HW1 := Lib.hid hw1
 have B1 : Hid (Below w.heap.size w w1) := by rw [hw1]; exact aA _ _
 have T1 : Hid (aT w1 w.heap.size 35 (.slice ao n co) (.slice an n cn) (.slice ap n cp)) := by rw [hw1]; exact aT.new _ _ _ _ _
 have Kd : Hid (Below w1.heap.size w1 w1.drew) := (Below.refl _ _).drew
 have bM : Hid (∀ W, Below w1.heap.size w1 W → W.cell? ⟨w.heap.size, 0, none⟩ = some (.slice ao n co) ∧ W.cell? ⟨w.heap.size, 1, none⟩ = some (.slice an n cn) ∧ W.cell? ⟨w.heap.size, 2, none⟩ = some (.slice ap n cp)) := fun W hb => ⟨(T1.out.below hb).c0, (T1.out.below hb).c1, (T1.out.below hb).c2⟩
 have s0 := bM.out _ Kd.out
 rw [hw1] at s0
 clear hw1
 go_enter Tryd.func52, Tryd.ntmps52
 go_wp2
 rw [← HW1.out] at s0 ⊢
 go_region_held3 (fun W => W.cell? ⟨w.heap.size, 0, none⟩ = some (.slice ao n co) ∧ W.cell? ⟨w.heap.size, 1, none⟩ = some (.slice an n cn) ∧ W.cell? ⟨w.heap.size, 2, none⟩ = some (.slice ap n cp))
  (first
   | exact bM.out _ Kd.out
   | exact bM.out _ Ka.out
   | exact bM.out _ Kb.out
   | exact bM.out _ Kc.out)
  (first
   | (go_at_call 99; refine (aao.out _ q k bI V (B1.out.trans (Kb.out.mono B1.out.size)) Vb.out Pb.out Mb.out).mono ?_; rintro e wc ⟨bF, rfl, -, hM, hb⟩; have MF := Lib.hid hM; have Kc := Lib.hid (Kb.out.trans (hb.mono Kb.out.size)); clear hM hb)
   | (go_at_call 100; refine (HAl.out _).mono ?_; rintro e wb ⟨bI, rfl, -, hM, hb⟩; have Mb := Lib.hid hM; have Vb := Lib.hid (afM (Va.out.below hb) (Nat.le_trans B1.out.size Kd.out.size)); have Pb := Lib.hid (bY Pa.out hb); have Kb := Lib.hid (Ka.out.trans (hb.mono Ka.out.size)); clear hM hb)
   | (go_at_call 53; refine (HO7.out _ (B1.out.trans (Kd.out.mono B1.out.size))).mono ?_; rintro e wa ⟨q, k, V, rfl, hV, hK, hb⟩; have Va := Lib.hid hV; have Pa := Lib.hid hK; have Ka := Lib.hid (Kd.out.trans (hb.mono Kd.out.size)); clear hV hK hb))
 obtain ⟨w2, hw2⟩ : ∃ y, y = wc.alloc (.cells #[] 2) := ⟨_, rfl⟩
 have HW2 := Lib.hid hw2
 have hb2 : Below wc.heap.size wc w2 := by rw [hw2]; exact aA _ _
 have O2 : Hid (w2.ownsRow wc.heap.size 2 1 (.slice (some ⟨wc.heap.size, 0, none⟩) 0 0) (dZ 0 (fun v => if F v = true then (0 : Int) else 1)).length ((dZ 0 (fun v => if F v = true then (0 : Int) else 1)).map (Value.int .i64))) := by rw [hw2]; exact World.ownsRow_made wc #[] 0 (Nat.le_refl _) (by unfold maxLen; omega) rfl
 have M2 := Lib.hid (bY MF.out hb2)
 have Bc := Lib.hid (B1.out.trans (Kc.out.mono B1.out.size))
 have hs2 : wc.heap.size ≤ w2.heap.size := hb2.size
 have K2 : Hid (Below wc.heap.size wc w2) := hb2
 clear hw2 hb2 s0
 go_wp2
 rw [← HW2.out]
 go_loopw [4, 5] (fun ov iv wr => ∃ (k : Nat) (uu : Value), uu = ov ∧ k ≤ n ∧ iv = .int .i64 k ∧ Hid (wr.ownsRow wc.heap.size 2 1 ov (dZ k (fun v => if F v = true then (0 : Int) else 1)).length ((dZ k (fun v => if F v = true then (0 : Int) else 1)).map (Value.int .i64))) ∧ Hid (Below wc.heap.size wc wr)) (fun _ iv _ => n - (intOf iv).toNat)
 case atStart => exact ⟨0, _, rfl, Nat.zero_le _, rfl, O2, K2⟩
 case round =>
  clear O2 K2
  obtain ⟨k, uu, hu0, hk, rfl, HO, HK⟩ := hrel
  subst hu0
  have afP := HK.out.size
  have hll : (dZ k (fun v => if F v = true then (0 : Int) else 1)).length = k := lK _ _
  by_cases hlt : k < n
  · have hi1 : (k : Int) < n := by omega
    have hk0 : (0 : Int) ≤ (k : Int) := by omega
    have f1 := (bY MF.out HK.out).cell hlt
    unfold bH at f1
    have hst : dZ (k + 1) (fun v => if F v = true then (0 : Int) else 1) = dZ k (fun v => if F v = true then (0 : Int) else 1) ++ [if F k = true then (0 : Int) else 1] := aeN _ _
    obtain ⟨b, hb⟩ : ∃ b, F k = b := ⟨_, rfl⟩
    rw [hb] at f1 hst
    have HFl := Lib.hid (fun W => afU b W)
    obtain ⟨g, hg⟩ : ∃ g, dZ k (fun v => if F v = true then (0 : Int) else 1) = g := ⟨_, rfl⟩
    rw [hg] at hst hll HO
    have HST := Lib.hid hst
    clear hst hb hg
    cases b with
    | false =>
      have TQ : Hid (∀ W : World, Calls Tryd.prog 95 #[.bool false] W fun e w' => e = .returned (.int .i64 0) ∧ W = w') := fun W => by simpa using HFl.out W
      go_wp2_with fail
      refine (TQ.out _).mono ?_
      rintro e w4 ⟨rfl, rfl⟩
      go_wp2_with (at_builtin; refine wpList_append_own_at _ rfl _ _ 22 rfl wc.heap.size 2 i0 (.int .i64 0) 1 8 Tryd.underlying22 hi hz0 hz1 hz2 rfl (by decide) _ _ _ rfl (HO.out.alloc _) ⟨wr.heap.size, 0, none⟩ 1 1 [.int .i64 1] rfl rfl ?c1 ?c2 ?c3 ?c4 ?c5 ?_)
      try (case c1 => exact cell_one_new _ _ _)
      try (case c2 => first | rfl | (intro u hu; simp at hu; subst hu; rfl))
      case c3 => unfold maxLen; omega
      case c4 => omega
      case c5 => first | (simp; omega) | omega
      intro v' w5 hown hgrow _ _
      have hg : Only (fun b => wc.heap.size ≤ b) wr w5 := (Only.of_below (aA wr _)).trans ((Only.dV hgrow).mono fun b hb => (HO.out.lt b hb).1)
      have Kn := Lib.hid (HK.out.trans (hg.below HK.out.size (fun _ h => h)))
      have yg : Hid (w5.ownsRow wc.heap.size 2 1 v' (dZ (k + 1) (fun v => if F v = true then (0 : Int) else 1)).length ((dZ (k + 1) (fun v => if F v = true then (0 : Int) else 1)).map (Value.int .i64))) := by
       rw [HST.out, List.map_append, List.length_append]; simpa [Hid, hll] using hown
      clear hown hgrow hg
      go_wp2
      go_roundw
      case rel => exact ⟨k + 1, _, rfl, by omega, by go_num, yg, Kn⟩
      case measure => simp [intOf]; omega
    | true =>
      have TQ : Hid (∀ W : World, Calls Tryd.prog 95 #[.bool true] W fun e w' => e = .returned (.int .i64 1) ∧ W = w') := fun W => by simpa using HFl.out W
      go_wp2_with fail
      refine (TQ.out _).mono ?_
      rintro e w4 ⟨rfl, rfl⟩
      go_wp2_with (at_builtin; refine wpList_append_own_at _ rfl _ _ 22 rfl wc.heap.size 2 i0 (.int .i64 0) 1 8 Tryd.underlying22 hi hz0 hz1 hz2 rfl (by decide) _ _ _ rfl (HO.out.alloc _) ⟨wr.heap.size, 0, none⟩ 1 1 [.int .i64 0] rfl rfl ?c1 ?c2 ?c3 ?c4 ?c5 ?_)
      try (case c1 => exact cell_one_new _ _ _)
      try (case c2 => first | rfl | (intro u hu; simp at hu; subst hu; rfl))
      case c3 => unfold maxLen; omega
      case c4 => omega
      case c5 => first | (simp; omega) | omega
      intro v' w5 hown hgrow _ _
      have hg : Only (fun b => wc.heap.size ≤ b) wr w5 := (Only.of_below (aA wr _)).trans ((Only.dV hgrow).mono fun b hb => (HO.out.lt b hb).1)
      have Kn := Lib.hid (HK.out.trans (hg.below HK.out.size (fun _ h => h)))
      have yg : Hid (w5.ownsRow wc.heap.size 2 1 v' (dZ (k + 1) (fun v => if F v = true then (0 : Int) else 1)).length ((dZ (k + 1) (fun v => if F v = true then (0 : Int) else 1)).map (Value.int .i64))) := by
       rw [HST.out, List.map_append, List.length_append]; simpa [Hid, hll] using hown
      clear hown hgrow hg
      go_wp2
      go_roundw
      case rel => exact ⟨k + 1, _, rfl, by omega, by go_num, yg, Kn⟩
      case measure => simp [intOf]; omega
  · have hi1 : ¬ (k : Int) < n := by omega
    have hkk : k = n := by omega
    rw [hkk, ← HLL.out] at HO
    have HLn : Hid (L.length ≤ 256 ∧ ∀ j, j < L.length → Fits (nth L j)) := by
     rw [HLL.out]
     refine ⟨by rw [lK]; omega, fun j hj => ?_⟩
     rw [lK] at hj
     rw [zK hj]
     split <;> (unfold Fits; omega)
    have hsw : w.heap.size ≤ wc.heap.size := Bc.out.size
    have hfin := Lib.hid ((aF.mk' HO.out (by have := HLn.out.1; omega) HLn.out.2).base (B' := w.heap.size) hsw)
    have Bw := Lib.hid (Bc.out.trans (HK.out.mono Bc.out.size))
    clear hkk HO
    go_wp2
    go_ret
    exact ⟨_, rfl, hfin.out, Bw.out⟩
end
section
open Go.RowKit
def tN (ah : List (List Int)) (Pk : List Int) : Prop := Pk.length = ah.length ∧ ∀ v, v < Pk.length → nth Pk v = -1 ∨ nth Pk v ∈ row ah v
noncomputable def Dn (ah : List (List Int)) (Pk : List Int) : Bool := @decide (tN ah Pk) (Classical.propDecidable _)
theorem tV {ah : List (List Int)} {Pk : List Int} : Dn ah Pk = true ↔ tN ah Pk := by unfold Dn; rw [@decide_eq_true_eq _ (Classical.propDecidable _)]
theorem TR {ah : List (List Int)} {Pk : List Int} (h : ¬ tN ah Pk) : Dn ah Pk = false := by
 cases hb : Dn ah Pk with
 | false => rfl
 | true => exact absurd (tV.1 hb) h
set_option maxHeartbeats 8000000 in
set_option maxRecDepth 100000 in
theorem aap {w : World} {v : Value} {O P Pk : List Int} {ah : List (List Int)} {aK : Option Addr} {r : Bool} (cK : Nat) (hr : Dn ah Pk = r) (h : gX w v O ah P) (hPl : P.length = ah.length) (hz : ah.length ≤ 256) (hK : aV w aK Pk) :
 Calls Tryd.prog 124 #[v, .slice aK Pk.length cK] w fun e w' => e = .returned (.bool r) ∧ Below w.heap.size w w' := by
 obtain ⟨ao, an, ap, co, cn, cp, A, C, rfl, h1, h2, h3⟩ := h
 have sW := h3.len
 have hlK := hK.len
 have qP := Lib.hid h2
 have iH := Lib.hid hK
 obtain ⟨w1, hw1⟩ : ∃ y, y = w.alloc (.cells #[.slice ao O.length co, .slice an ah.length cn, .slice ap P.length cp] 35) := ⟨_, rfl⟩
 have HW1 := Lib.hid hw1
 have B1 : Hid (Below w.heap.size w w1) := by rw [hw1]; exact aA _ _
 have T1 : Hid (aT w1 w.heap.size 35 (.slice ao O.length co) (.slice an ah.length cn) (.slice ap P.length cp)) := by rw [hw1]; exact aT.new _ _ _ _ _
 have HN : Hid (¬ tN ah Pk → r = false) := fun h => by rw [← hr]; exact TR h
 have HY : Hid (tN ah Pk → r = true) := fun h => by rw [← hr]; exact tV.2 h
 have c2 := T1.out.c2
 rw [hw1] at c2
 have kD := Lib.hid hPl
 clear hw1 h1 h2 h3 hK hr hPl
 by_cases hl : Pk.length = P.length
 · have hl1 : ((Pk.length : Int) != (P.length : Int)) = false := by simp; omega
   have hl2 : (Pk.length != P.length) = false := by simp; omega
   have HL := Lib.hid hl
   clear hl
   go_enter Tryd.func124, Tryd.ntmps124
   go_wp2
   rw [← HW1.out]
   clear c2 hl1 hl2
   go_loopw [5] (fun iv wr => ∃ k : Nat, k ≤ Pk.length ∧ iv = .int .i64 k ∧ Hid (∀ j, j < k → nth Pk j = -1 ∨ nth Pk j ∈ row ah j) ∧ Hid (Below w1.heap.size w1 wr)) (fun iv _ => Pk.length - (intOf iv).toNat)
   case atStart => exact ⟨0, Nat.zero_le _, rfl, fun j hj => absurd hj (Nat.not_lt_zero _), Below.refl _ _⟩
   case round =>
    obtain ⟨k, hk, rfl, HJ, HB⟩ := hrel
    have Bw := Lib.hid (B1.out.trans (HB.out.mono B1.out.size))
    by_cases hlt : k < Pk.length
    · have hi1 : (k : Int) < Pk.length := by omega
      have hk0 : (0 : Int) ≤ (k : Int) := by omega
      have tX : k < ah.length := by have := HL.out; have := kD.out; omega
      have hi2 : (k : Int) < ah.length := by omega
      obtain ⟨pb, po, hpa, hpc⟩ := (iH.out.below Bw.out).cell (by omega)
      obtain ⟨nb, no, hna, hnc⟩ := (qP.out.below Bw.out).cell (by omega)
      have p1 := hpc k hlt
      have n1 := hnc k tX
      have Ad := Lib.hid ((qP.out.below Bw.out).rows k tX)
      have t1 := (T1.out.below HB.out).c1
      obtain ⟨p, hp⟩ : ∃ q, q = nth Pk k := ⟨_, rfl⟩
      have HP := Lib.hid hp
      rw [← hp] at p1
      subst hpa
      subst hna
      clear hpc hnc hp
      by_cases e : p = -1
      · have he : (p != -1) = false := by simpa using e
        have kP : Hid (∀ j, j < k + 1 → nth Pk j = -1 ∨ nth Pk j ∈ row ah j) := fun j hj => by
         by_cases h : j = k
         · subst h; exact .inl (by rw [← HP.out]; exact e)
         · exact HJ.out j (by omega)
        clear e
        go_wp2
        go_quiet (fail)
        go_wp2
        go_roundw
        case rel => exact ⟨k + 1, by omega, by go_num, kP, below_drewN HB.out _⟩
        case measure => simp [intOf]; omega
      · have he : (p != -1) = true := by simpa using e
        cases hh : hasB (row ah k) p with
        | false =>
          have HF : Hid (r = false) := HN.out fun h => by
           have h1 := h.2 k hlt
           rw [← HP.out] at h1
           rcases h1 with h1 | h1
           · exact e h1
           · rw [xK.2 h1] at hh; cases hh
          have TU : Hid (∀ m, Calls Tryd.prog 116 #[.slice (A k) (row ah k).length (C k), .int .i64 p] (wr.drewN m) fun e w' => e = .returned (.bool false) ∧ wr.drewN m = w') := fun m => aam hh (C k) (Ad.out.same ⟨m, rfl⟩)
          clear e hh
          go_wp2
          go_quiet ((go_at_call 116; exact EW (TU.out _)))
          go_wp2
          go_ret
          exact ⟨dY HF.out.symm, below_drewN Bw.out _⟩
        | true =>
          have kP : Hid (∀ j, j < k + 1 → nth Pk j = -1 ∨ nth Pk j ∈ row ah j) := fun j hj => by
           by_cases h : j = k
           · subst h; exact .inr (by rw [← HP.out]; exact xK.1 hh)
           · exact HJ.out j (by omega)
          have TU : Hid (∀ m, Calls Tryd.prog 116 #[.slice (A k) (row ah k).length (C k), .int .i64 p] (wr.drewN m) fun e w' => e = .returned (.bool true) ∧ wr.drewN m = w') := fun m => aam hh (C k) (Ad.out.same ⟨m, rfl⟩)
          clear e hh
          go_wp2
          go_quiet ((go_at_call 116; exact EW (TU.out _)))
          go_wp2
          go_roundw
          case rel => exact ⟨k + 1, by omega, by go_num, kP, below_drewN HB.out _⟩
          case measure => simp [intOf]; omega
    · have hi1 : ¬ (k : Int) < Pk.length := by omega
      have HF : Hid (r = true) := HY.out ⟨HL.out.trans kD.out, fun v hv => HJ.out v (by omega)⟩
      go_wp2
      go_ret
      exact ⟨dY HF.out.symm, Bw.out⟩
 · have hl1 : ((Pk.length : Int) != (P.length : Int)) = true := by simp; omega
   have hl2 : (Pk.length != P.length) = true := by simp; omega
   have HF : Hid (r = false) := HN.out fun h => hl (h.1.trans kD.out.symm)
   clear hl
   go_enter Tryd.func124, Tryd.ntmps124
   go_wp2
   rw [← HW1.out]
   go_ret
   exact ⟨dY HF.out.symm, B1.out⟩
theorem afV {w : World} {k n : Nat} {Pk : List Int} (h : w.rowIs k 2 n (dD (nth Pk))) (hl : Pk.length = n) (hn : n ≤ 256) (hf : ∀ j, j < n → Fits (nth Pk j)) : aV w (some ⟨k, 0, none⟩) Pk := by
 refine ⟨by omega, fun j hj => hf j (by omega), fun _ => ⟨k, 0, rfl, fun j hj => ?_⟩⟩
 have h1 := World.rowIs.cell (i := j) h (by omega)
 rw [Nat.zero_add]
 exact h1
def gu (hold : Int → Bool) (I : Nat → Bool) : List Int → Int
 | [] => -1
 | u :: us => if I u.toNat && hold u then u else gu hold I us
theorem afW {zs : List Int} {i : Nat} (h : i < zs.length) : zs.drop i = nth zs i :: zs.drop (i + 1) := by
 rw [List.drop_eq_getElem_cons h, jl h]
structure aaq (w : World) (ao ap an aq : Option Addr) (A : Nat → Option Addr) (C : Nat → Nat) (A' : Nat → Option Addr) (C' : Nat → Nat) (O P : List Int) (ah : List (List Int)) (bI : Nat) (I : Nat → Bool) : Prop where
 own : aV w ao O
 prio : aV w ap P
 next : dU w an A C ah
 prev : dU w aq A' C' (rowsOf ah.length fun u => dN ah u ah.length)
 part : w.rowIs bI 4 ah.length (bH I)
set_option maxHeartbeats 16000000 in
set_option maxRecDepth 100000 in
theorem aar {ao ap an aq : Option Addr} {A : Nat → Option Addr} {C : Nat → Nat} {A' : Nat → Option Addr} {C' : Nat → Nat} {ah : List (List Int)} {O P Pk : List Int} (co cp cn cq ck : Nat)
 (hz : iO ah) (fM : O.length = ah.length) (hPl : P.length = ah.length) (hpk : Pk.length = ah.length) (ku : ah.length ≤ 256) (jZ : ∀ v, v < ah.length → (row ah v).length ≤ 16) (hfit : ∀ j, j < ah.length → Fits (nth Pk j))
 {w : World} {I : Nat → Bool} {bI kb v : Nat} {r : Int} (hv : v < ah.length) (hr : gu (fun u => fC ah O P (Pk.set v u) I (nth O v)) I (row ah v) = r)
 (hR : ∀ W, Only (fun b => b = kb) w W → aaq W ao ap an aq A C A' C' O P ah bI I) (hk : w.rowIs kb 2 ah.length (dD (nth Pk))) :
 Calls Tryd.prog 55 #[.agg #[.slice ao O.length co, .slice ap P.length cp, .slice an ah.length cn, .slice aq ah.length cq, .slice (some ⟨kb, 0, none⟩) ah.length ck], .slice (some ⟨bI, 0, none⟩) ah.length ah.length, .int .i64 v] w fun e w' =>
  e = .returned (.int .i64 r) ∧ (∃ q, w'.rowIs kb 2 ah.length (dD fun j => if j = v then q else nth Pk j)) ∧ Only (fun b => b = kb) w w' := by
 obtain ⟨n, hnl⟩ : ∃ n, n = ah.length := ⟨_, rfl⟩
 obtain ⟨w1, hw1⟩ : ∃ y, y = w.alloc (.cells #[.slice ao O.length co, .slice ap P.length cp, .slice an ah.length cn, .slice aq ah.length cq, .slice (some ⟨kb, 0, none⟩) ah.length ck] 61) := ⟨_, rfl⟩
 have HW1 := Lib.hid hw1
 have B1 : Hid (Below w.heap.size w w1) := by rw [hw1]; exact aA _ _
 have hkb : kb < w.heap.size := hk.lt
 have X1 : Hid (eF w1 w.heap.size 61 (.slice ao O.length co) (.slice ap P.length cp) (.slice an ah.length cn) (.slice aq ah.length cq) (.slice (some ⟨kb, 0, none⟩) ah.length ck)) := by rw [hw1]; exact eF.new _ _ _ _ _ _ _
 have HRW : Hid (∀ W, Only (fun b => b = kb) w1 W → aaq W ao ap an aq A C A' C' O P ah bI I) := fun W ho => hR W ((Only.of_below B1.out).trans ho)
 have K1 : Hid (w1.rowIs kb 2 ah.length (dD fun j => if j = v then nth Pk v else nth Pk j)) := by
  refine World.rowIs.congr (bY hk B1.out) fun i _ => ?_
  unfold dD
  by_cases e : i = v
  · subst e; simp
  · simp [e]
 have HHo : Hid (∀ (W : World) (u : Int), (∃ i, i < (row ah v).length ∧ u = nth (row ah v) i) → Only (fun b => b = kb) w1 W → W.rowIs kb 2 ah.length (dD fun j => if j = v then u else nth Pk j) →
  Calls Tryd.prog 101 #[.agg #[.slice ao O.length co, .slice ap P.length cp, .slice an ah.length cn, .slice aq ah.length cq, .slice (some ⟨kb, 0, none⟩) ah.length ck], .slice (some ⟨bI, 0, none⟩) ah.length ah.length, .int .i64 (nth O v)] W fun e w' => e = .returned (.bool (fC ah O P (Pk.set v u) I (nth O v))) ∧ Below W.heap.size W w') := fun W u hu ho hK => by
  have hG := HRW.out W ho
  have hn : ∀ j, nth (Pk.set v u) j = if j = v then u else nth Pk j := fun j => by
   unfold nth
   rw [List.getD_eq_getElem?_getD, List.getD_eq_getElem?_getD, List.getElem?_set]
   by_cases e : v = j
   · subst e; simp [hpk, hv]
   · simp [e, Ne.symm e]
  have hK' : W.rowIs kb 2 ah.length (dD (nth (Pk.set v u))) := World.rowIs.congr hK fun i _ => by unfold dD; rw [hn]
  have hI := afV hK' (by simp [hpk]) ku (fun j hj => by
   rw [hn]
   by_cases e : j = v
   · rw [if_pos e]
     obtain ⟨i, hi, rfl⟩ := hu
     obtain ⟨y, hy, hyn⟩ := hz.eu v hv _ (jo hi)
     rw [hy]; unfold Fits; omega
   · rw [if_neg e]; exact hfit j hj)
  have h := afT co cp cn cq ck hz fM hPl (Pk := Pk.set v u) (by simp [hpk]) ku jZ rfl hG.own hG.prio hG.next hG.prev hI hG.part (who := nth O v)
  rw [List.length_set, hpk] at h
  exact h
 have HRn : Hid (∀ i, i < (row ah v).length → ∃ u : Nat, nth (row ah v) i = (u : Int) ∧ u < ah.length) := fun i hi => hz.eu v hv _ (jo hi)
 have afX := Lib.hid (jZ v hv)
 obtain ⟨hold, hho⟩ : ∃ h : Int → Bool, h = fun u => fC ah O P (Pk.set v u) I (nth O v) := ⟨_, rfl⟩
 rw [← hho] at hr
 have afY : Hid (∀ (W : World) (u : Int), (∃ i, i < (row ah v).length ∧ u = nth (row ah v) i) → Only (fun b => b = kb) w1 W → W.rowIs kb 2 ah.length (dD fun j => if j = v then u else nth Pk j) →
  Calls Tryd.prog 101 #[.agg #[.slice ao O.length co, .slice ap P.length cp, .slice an ah.length cn, .slice aq ah.length cq, .slice (some ⟨kb, 0, none⟩) ah.length ck], .slice (some ⟨bI, 0, none⟩) ah.length ah.length, .int .i64 (nth O v)] W fun e w' => e = .returned (.bool (hold u)) ∧ Below W.heap.size W w') := by rw [hho]; exact HHo.out
 have D0 : Hid (gu hold I ((row ah v).drop 0) = r) := hr
 have HKB := Lib.hid hkb
 have hv0 : (0 : Int) ≤ (v : Int) := by omega
 have hv1 : (v : Int) < ah.length := by omega
 have hv2 : (v : Int) < O.length := by omega
 have nJ : Hid (v < O.length) := by unfold Hid; omega
 have hsz1 : w.heap.size < w1.heap.size := X1.out.lt
 have cO := Lib.hid hsz1
 clear hw1 hR hk hr hho HHo hz hPl hpk fM jZ hfit hkb hsz1 hnl
 go_enter Tryd.func55, Tryd.ntmps55
 go_wp2
 rw [← HW1.out]
 go_loopw [7] (fun iv wr => ∃ (i : Nat) (q : Int), i ≤ (row ah v).length ∧ iv = .int .i64 i ∧ Hid (gu hold I ((row ah v).drop i) = r) ∧ Hid (wr.rowIs kb 2 ah.length (dD fun j => if j = v then q else nth Pk j)) ∧ Hid (Only (fun b => b = kb) w1 wr)) (fun iv _ => (row ah v).length - (intOf iv).toNat)
 case atStart => exact ⟨0, _, Nat.zero_le _, rfl, D0, K1, Only.refl _ _⟩
 case round =>
  clear D0 K1
  obtain ⟨i, q, hi, rfl, HD, HK, HO⟩ := hrel
  have HG := Lib.hid (HRW.out wr HO.out)
  have Xw : Hid (eF wr w.heap.size 61 (.slice ao O.length co) (.slice ap P.length cp) (.slice an ah.length cn) (.slice aq ah.length cq) (.slice (some ⟨kb, 0, none⟩) ah.length ck)) := fV X1.out HO.out (by have := HKB.out; omega)
  obtain ⟨nb, no, hna, hnc⟩ := HG.out.next.cell (by omega)
  have n1 := hnc v hv
  have x2 := Xw.out.c2
  have h16 := afX.out
  obtain ⟨rl, hrl⟩ : ∃ l, l = (row ah v).length := ⟨_, rfl⟩
  by_cases hlt : i < (row ah v).length
  · have hi1 : (i : Int) < (row ah v).length := by omega
    have hi0 : (0 : Int) ≤ (i : Int) := by omega
    obtain ⟨rb, ro, hra, hrc⟩ := (HG.out.next.rows v hv).cell (by omega)
    have r1 := hrc i hlt
    obtain ⟨u, hu, hun⟩ := HRn.out i hlt
    rw [hu] at r1
    rw [hra] at n1
    have hu0 : (0 : Int) ≤ (u : Int) := by omega
    have hu1 : (u : Int) < ah.length := by omega
    have i1 := HG.out.part.cell hun
    unfold bH at i1
    have hdr := afW hlt
    rw [hu] at hdr
    have HDR := Lib.hid hdr
    have HUI : Hid (∃ i, i < (row ah v).length ∧ (u : Int) = nth (row ah v) i) := ⟨i, hlt, hu.symm⟩
    subst hna
    clear hnc hrc hdr hu hra hrl
    cases gY : I u with
    | false =>
      rw [gY] at i1
      have HDn : Hid (gu hold I ((row ah v).drop (i + 1)) = r) := by
       have h := HD.out
       rw [HDR.out, gu, Int.toNat_natCast, gY] at h
       exact h
      clear gY
      go_wp2
      go_roundw
      case rel => exact ⟨i + 1, q, by omega, by go_num, HDn, HK, HO⟩
      case measure => simp [intOf]; omega
    | true =>
      rw [gY] at i1
      have SN := Lib.hid gY
      have x0 := Xw.out.c0
      have x1 := Xw.out.c1
      have x3 := Xw.out.c3
      have x4 := Xw.out.c4
      have hkc := HK.out.cell hv
      have Jj := HK.out.frozen v
      obtain ⟨ws, hws⟩ : ∃ y, y = wr.setCell ⟨kb, v, none⟩ (.int .i64 u) := ⟨_, rfl⟩
      have HWS := Lib.hid hws
      have hos : Only (fun b => b = kb) wr ws := by rw [hws]; exact Only.setCell (S := fun b => b = kb) (Only.refl _ _) (p := ⟨kb, v, none⟩) rfl _
      have wM : Hid (ws.rowIs kb 2 ah.length (dD fun j => if j = v then (u : Int) else nth Pk j)) := by
       rw [hws]
       refine World.rowIs.congr (C9 HK.out) fun j _ => ?_
       unfold dD
       by_cases e : j = v
       · simp [e]
       · simp [e]
      have qQ := Lib.hid (HO.out.trans hos)
      have Xs : Hid (eF ws w.heap.size 61 (.slice ao O.length co) (.slice ap P.length cp) (.slice (some ⟨nb, no, none⟩) ah.length cn) (.slice aq ah.length cq) (.slice (some ⟨kb, 0, none⟩) ah.length ck)) := fV Xw.out hos (by have := HKB.out; omega)
      have HGs := Lib.hid (HRW.out ws qQ.out)
      obtain ⟨ob, oo, hoa, hoc⟩ := HGs.out.own.cell (by have := nJ.out; omega)
      have tY := Lib.hid (hoc v nJ.out)
      have Kd : Hid (Below ws.heap.size ws ws.drew) := (Below.refl _ _).drew
      have afZ := Lib.hid (qQ.out.trans (Only.of_below Kd.out))
      have af0 := Lib.hid (bY wM.out Kd.out)
      have HC := Lib.hid (afY.out ws.drew u HUI.out afZ.out af0.out)
      obtain ⟨o, ho⟩ : ∃ o, o = nth O v := ⟨_, rfl⟩
      rw [← ho] at tY HC
      have bM : Hid (∀ W, Below ws.heap.size ws W → W.cell? ⟨w.heap.size, 0, none⟩ = some (.slice ao O.length co) ∧ W.cell? ⟨w.heap.size, 1, none⟩ = some (.slice ap P.length cp) ∧ W.cell? ⟨w.heap.size, 2, none⟩ = some (.slice (some ⟨nb, no, none⟩) ah.length cn) ∧ W.cell? ⟨w.heap.size, 3, none⟩ = some (.slice aq ah.length cq) ∧ W.cell? ⟨w.heap.size, 4, none⟩ = some (.slice (some ⟨kb, 0, none⟩) ah.length ck) ∧ W.cell? ⟨ob, oo + v, none⟩ = some (.int .i64 o)) := fun W hb =>
       ⟨(Xs.out.below hb).c0, (Xs.out.below hb).c1, (Xs.out.below hb).c2, (Xs.out.below hb).c3, (Xs.out.below hb).c4, Below.CJ (B := 0) hb rfl tY.out⟩
      have s0 := bM.out _ Kd.out
      obtain ⟨bh, TV⟩ : ∃ b, hold (u : Int) = b := ⟨_, rfl⟩
      rw [TV] at HC
      have HBH := Lib.hid TV
      subst hoa
      rw [hws] at s0
      clear hoc hws hos ho TV gY
      go_wp2
      rw [← HWS.out] at s0 ⊢
      go_region_held3 (fun W => W.cell? ⟨w.heap.size, 0, none⟩ = some (.slice (some ⟨ob, oo, none⟩) O.length co) ∧ W.cell? ⟨w.heap.size, 1, none⟩ = some (.slice ap P.length cp) ∧ W.cell? ⟨w.heap.size, 2, none⟩ = some (.slice (some ⟨nb, no, none⟩) ah.length cn) ∧ W.cell? ⟨w.heap.size, 3, none⟩ = some (.slice aq ah.length cq) ∧ W.cell? ⟨w.heap.size, 4, none⟩ = some (.slice (some ⟨kb, 0, none⟩) ah.length ck) ∧ W.cell? ⟨ob, oo + v, none⟩ = some (.int .i64 o))
       (first
        | exact bM.out _ Kd.out
        | exact bM.out _ Kh.out)
       (first
        | (go_at_call 101; refine HC.out.mono ?_; rintro e wh ⟨rfl, hb⟩; have Kh := Lib.hid (Kd.out.trans (hb.mono Kd.out.size)); clear hb))
      have HKh := Lib.hid (bY wM.out Kh.out)
      have HOh := Lib.hid (qQ.out.trans (Only.of_below Kh.out))
      cases bh with
      | false =>
        have HDn : Hid (gu hold I ((row ah v).drop (i + 1)) = r) := by
         have h := HD.out
         rw [HDR.out, gu, HBH.out, Bool.and_false] at h
         exact h
        clear s0 n1 x2 r1 i1 x0 x1 x3 x4 hkc Jj
        go_wp2
        go_roundw
        case rel => exact ⟨i + 1, _, by omega, by go_num, HDn, HKh, HOh⟩
        case measure => simp [intOf]; omega
      | true =>
        have HRR : Hid (r = (u : Int)) := by
         have h := HD.out
         rw [HDR.out, gu, HBH.out, Bool.and_true, Int.toNat_natCast, SN.out, if_pos rfl] at h
         exact h.symm
        clear s0 n1 x2 r1 i1 x0 x1 x3 x4 hkc Jj
        go_wp2
        go_ret
        exact ⟨by rw [HRR.out]; rfl, ⟨_, HKh.out⟩, (Only.of_below B1.out).trans HOh.out⟩
  · have hi1 : ¬ (i : Int) < (row ah v).length := by omega
    have HRR : Hid (r = -1) := by
     have h := HD.out
     rw [List.drop_eq_nil_of_le (by omega)] at h
     exact h.symm
    subst hna
    clear hnc hrl
    go_wp2
    go_ret
    exact ⟨by rw [HRR.out]; rfl, ⟨_, HK.out⟩, (Only.of_below B1.out).trans HO.out⟩
end
end Go.Proofs.YtglbkbiphcgidaaDoor
namespace Go.Proofs.YtglbkbiphcgidaaDoor
open Go.RowKit
end Go.Proofs.YtglbkbiphcgidaaDoor
namespace Go.Proofs.YtglbkbiphcgidaaDoor
open Go.RowKit
section
variable {O E D : List Int} {ah : List (List Int)} {v : Int}
end
end Go.Proofs.YtglbkbiphcgidaaDoor
namespace Go.Proofs.YtglbkbiphcgidaaDoor
open Go.RowKit
def Ae (w : World) (v : Value) (X Y : List Int) : Prop :=
 ∃ ax ay cx cy, v = .agg #[.slice ax X.length cx, .slice ay Y.length cy] ∧ aV w ax X ∧ aV w ay Y
theorem Ae.below {w w' : World} {v : Value} {X Y : List Int} (h : Ae w v X Y) (hb : Below w.heap.size w w') : Ae w' v X Y := by
 obtain ⟨ax, ay, cx, cy, hv, h1, h2⟩ := h
 exact ⟨ax, ay, cx, cy, hv, h1.below hb, h2.below hb⟩
def iQ (w : World) (B D : Nat) (v : Value) (X Y : List Int) : Prop :=
 ∃ vx vy, v = .agg #[vx, vy] ∧ aF w B D vx X ∧ aF w B D vy Y ∧ ∀ g, vx.ownBlock = some g → vy.ownBlock ≠ some g
section
variable {w w' : World} {B B' D : Nat} {v : Value} {X Y : List Int}
theorem iQ.at (h : iQ w B D v X Y) : Ae w v X Y := by
 obtain ⟨vx, vy, rfl, h1, h2, _⟩ := h
 obtain ⟨a, c, rfl, hi, _⟩ := h1.shape
 obtain ⟨b, d, rfl, hj, _⟩ := h2.shape
 exact ⟨_, _, _, _, rfl, hi, hj⟩
theorem iQ.only {S : Nat → Prop} (h : iQ w B D v X Y) (hk : Only S w w') (hs : ∀ g, B ≤ g → g < D → ¬ S g) : iQ w' B D v X Y := by
 obtain ⟨vx, vy, hv, h1, h2, h3⟩ := h
 exact ⟨vx, vy, hv, h1.only hk (fun g hg => hs g (h1.own.lt g hg).1 (h1.top g hg)), h2.only hk (fun g hg => hs g (h2.own.lt g hg).1 (h2.top g hg)), h3⟩
theorem iQ.below (h : iQ w B D v X Y) (hb : Below w.heap.size w w') : iQ w' B D v X Y := by
 obtain ⟨vx, vy, hv, h1, h2, h3⟩ := h
 exact ⟨vx, vy, hv, h1.below hb, h2.below hb, h3⟩
theorem iQ.base (h : iQ w B D v X Y) (hB : B' ≤ B) : iQ w B' D v X Y := by
 obtain ⟨vx, vy, hv, h1, h2, h3⟩ := h
 exact ⟨vx, vy, hv, h1.base hB, h2.base hB, h3⟩
theorem iQ.bg (h : iQ w B D v X Y) : iQ w B w.heap.size v X Y := by
 obtain ⟨vx, vy, hv, h1, h2, h3⟩ := h
 exact ⟨vx, vy, hv, h1.bg, h2.bg, h3⟩
theorem iQ.zero (w : World) (B D : Nat) : iQ w B D (.agg #[.slice none 0 0, .slice none 0 0]) [] [] :=
 ⟨_, _, rfl, aF.nil _ _ _, aF.nil _ _ _, fun g hg => by simp [Value.ownBlock] at hg⟩
theorem iQ.shape (h : iQ w B D v X Y) : ∃ a0 c0 a1 c1, v = .agg #[.slice a0 X.length c0, .slice a1 Y.length c1] := by
 obtain ⟨ax, ay, cx, cy, hv, _⟩ := h.at
 exact ⟨_, _, _, _, hv⟩
theorem iQ.Rl {vx vy : Value} {M : Nat} (h : aF w B M vx X) (hp : aF w M D vy Y) (Ro : B ≤ M) (hMD : M ≤ D) : iQ w B D (.agg #[vx, vy]) X Y :=
 ⟨_, _, rfl, ⟨h.own, fun g hg => by have := h.top g hg; omega, h.len, h.fits⟩, hp.base Ro, fun g hg hh => by
  have := h.top g hg
  have := (hp.own.lt g hh).1
  omega⟩
end
def TY (w : World) (X Y : List Int) (e : Ending) (w' : World) : Prop :=
 ∃ v, e = .returned v ∧ iQ w' w.heap.size w'.heap.size v X Y ∧ Below w.heap.size w w'
def Ua (w : World) (X Y : List Int) (r : Bool) (e : Ending) (w' : World) : Prop :=
 ∃ v, e = .returned (.tuple #[v, .bool r]) ∧ iQ w' w.heap.size w'.heap.size v X Y ∧ Below w.heap.size w w'
end Go.Proofs.YtglbkbiphcgidaaDoor
namespace Go.Proofs.YtglbkbiphcgidaaDoor
open Go.RowKit
def Jk (w : World) (v : Value) (X Y : List Int) : Prop :=
 ∃ ax ay cx cy, v = .agg #[.slice ax X.length cx, .slice ay Y.length cy] ∧ aV w ax X ∧ aV w ay Y ∧ Y.length ≤ cy
theorem Jk.at {w : World} {v : Value} {X Y : List Int} (h : Jk w v X Y) : Ae w v X Y := by
 obtain ⟨ax, ay, cx, cy, hv, h1, h2, _⟩ := h
 exact ⟨ax, ay, cx, cy, hv, h1, h2⟩
theorem Jk.below {w w' : World} {v : Value} {X Y : List Int} (h : Jk w v X Y) (hb : Below w.heap.size w w') : Jk w' v X Y := by
 obtain ⟨ax, ay, cx, cy, hv, h1, h2, h3⟩ := h
 exact ⟨ax, ay, cx, cy, hv, h1.below hb, h2.below hb, h3⟩
end Go.Proofs.YtglbkbiphcgidaaDoor
namespace Go.Proofs.YtglbkbiphcgidaaDoor
open Go.RowKit
def pF (ah : List (List Int)) (P : List Int) (k : Nat) : List (List Int) := rowsOf ah.length fun v => if v < k ∧ 0 ≤ nth P v then [nth P v] else row ah v
theorem kQ (ah : List (List Int)) (P : List Int) (k : Nat) : (pF ah P k).length = ah.length := oV _ _
theorem Gg {ah : List (List Int)} {P : List Int} {k v : Nat} (h : v < ah.length) : row (pF ah P k) v = if v < k ∧ 0 ≤ nth P v then [nth P v] else row ah v := vY h
theorem Nz {xs ys : List (List Int)} (hl : xs.length = ys.length) (h : ∀ i, i < xs.length → row xs i = row ys i) : xs = ys := by
 apply List.ext_getElem hl
 intro i h1 h2
 have := h i h1
 simpa [row, h1, h2] using this
theorem af2 (ah : List (List Int)) (P : List Int) : pF ah P 0 = ah := Nz (kQ _ _ _) fun i hi => by
 rw [kQ] at hi
 rw [Gg hi, if_neg (fun h => absurd h.1 (Nat.not_lt_zero _))]
theorem af4 {ah : List (List Int)} {P : List Int} {k : Nat} (h : nth P k < 0) : pF ah P k = pF ah P (k + 1) := Nz (by rw [kQ, kQ]) fun i hi => by
 rw [kQ] at hi
 rw [Gg hi, Gg hi]
 by_cases e : i = k
 · subst e; rw [if_neg (fun h' => by omega), if_neg (fun h' => by omega)]
 · by_cases hl : i < k ∧ 0 ≤ nth P i
   · rw [if_pos hl, if_pos ⟨by omega, hl.2⟩]
   · rw [if_neg hl, if_neg (fun h' => hl ⟨by omega, h'.2⟩)]
theorem af5 {ah : List (List Int)} {P : List Int} {k : Nat} (hk : k < ah.length) (h : 0 ≤ nth P k) : (pF ah P k).set k [nth P k] = pF ah P (k + 1) := Nz (by simp [kQ]) fun i hi => by
 simp [kQ] at hi
 rw [Zj (by rw [kQ]; exact hk), Gg hi, Gg hi]
 by_cases e : i = k
 · subst e; rw [if_pos rfl, if_pos ⟨by omega, h⟩]
 · rw [if_neg e]
   by_cases hl : i < k ∧ 0 ≤ nth P i
   · rw [if_pos hl, if_pos ⟨by omega, hl.2⟩]
   · rw [if_neg hl, if_neg (fun h' => hl ⟨by omega, h'.2⟩)]
theorem iW.head {n t : Nat} {wr : World} {vo vn : Value} {V : Nat → Value} {O : List Int} {ah : List (List Int)} (h : iW n wr t vo vn V O ah) (h0 : 0 < ah.length) : ∃ g cap, vn = .slice (some ⟨g, 0, none⟩) ah.length cap ∧ n ≤ g := by
 rcases h.rows.own.2 with ⟨_, h1⟩ | ⟨g, cap, cur, hv, hg, _⟩
 · omega
 · exact ⟨g, cap, hv, hg⟩
end Go.Proofs.YtglbkbiphcgidaaDoor
