/-
  Contracts of chapter 1's functions, as far as ArenaOk needs them.
-/
import Derived.Test.YtjnbpllalbfeiaaRows
import Derived.Test.YtjnbpllalbfeiaaMem
import Derived.LoopTactic
import Derived.Deep.QuietTactic
import Derived.BigQuiet
import Derived.Outline
import Derived.Lib.Hide
import Derived.Deep.DeepFit
namespace Go.Proofs.Ytjnbpllalbfeiaa
open Go.RowKit


set_option maxHeartbeats 400000 in
theorem isSet_any (a : Option Addr) (zs : List Int) (cap : Nat) (n : Int) (w : World) (h : IntsAt w a zs) (_hn : Fits n) :
    Calls Try.prog 43 #[.slice a zs.length cap, .int .i64 n] w fun e w' => e = .returned (.bool (setB n zs)) ∧ w = w' := by
  obtain ⟨hlen, hfit, hcell⟩ := h
  unfold Fits at _hn
  have HS : Hid (setFrom n (lastAt zs 0) (zs.drop 0) = setB n zs) := rfl
  have HC := Lib.hid hcell
  have HF := Lib.hid hfit
  clear hcell hfit
  go_enter Try.func43, Try.ntmps43
  go_wp2
  go_loop [5, 10] (fun l i => ∃ k : Nat, k ≤ zs.length ∧ i = .int .i64 k ∧ l = .int .i64 (lastAt zs k) ∧ Hid (setFrom n (lastAt zs k) (zs.drop k) = setB n zs))
    (fun _ i => zs.length - (intOf i).toNat)
  case atStart => exact ⟨0, Nat.zero_le _, rfl, rfl, HS⟩
  case round =>
    obtain ⟨k, hk, rfl, rfl, HK⟩ := hrel
    by_cases hlt : k < zs.length
    · obtain ⟨b, off, ha, hc⟩ := HC.out (by omega)
      subst ha
      have hck := hc k hlt
      have hfk := HF.out k hlt
      clear hc
      have HL : Hid (lastAt zs (k + 1) = nth zs k) := by simp [Hid, lastAt]
      unfold Fits at hfk
      by_cases hA : nth zs k ≤ lastAt zs k
      · have hA' : decide (nth zs k ≤ lastAt zs k) = true := by simpa using hA
        have HN := setFrom_no n zs k hlt (Or.inl hA)
        have HE : Hid (setB n zs = false) := by rw [← HK.out]; exact HN
        clear HN
        go_wp2
        go_ret
        exact ⟨ret_bool HE.out.symm, rfl⟩
      · by_cases hB : n ≤ nth zs k
        · have HN := setFrom_no n zs k hlt (Or.inr hB)
          have HE : Hid (setB n zs = false) := by rw [← HK.out]; exact HN
          clear HN
          go_wp2
          go_ret
          exact ⟨ret_bool HE.out.symm, rfl⟩
        · have HE : Hid (setFrom n (lastAt zs (k + 1)) (zs.drop (k + 1)) = setB n zs) := by
            have := HK.out
            rw [setFrom_yes n zs k hlt (by omega) (by omega)] at this; exact this
          go_wp2
          go_round
          case rel => exact ⟨k + 1, by omega, by go_num, by rw [HL.out], HE⟩
          case measure => simp [intOf]; omega
    · have HE : Hid (setB n zs = true) := by rw [← HK.out]; exact setFrom_end _ _ _ _ (by omega)
      go_wp2
      go_ret
      exact ⟨ret_bool HE.out.symm, rfl⟩

theorem isSet_is {a : Option Addr} {zs : List Int} {n : Int} {r : Bool} (hr : setB n zs = r) (cap : Nat) (w : World) (h : IntsAt w a zs) (hn : Fits n) :
    Calls Try.prog 43 #[.slice a zs.length cap, .int .i64 n] w fun e w' => e = .returned (.bool r) ∧ w = w' := by
  subst hr
  exact isSet_any a zs cap n w h hn



set_option maxHeartbeats 2000000 in
set_option maxRecDepth 100000 in
theorem ArenaOk_any (ao an : Option Addr) (O : List Int) (zss : List (List Int)) (co cn : Nat) (A : Nat → Option Addr) (C : Nat → Nat) (w : World) (hO : IntsAt w ao O) (hN : RowsAt w an A C zss) :
    Calls Try.prog 33 #[.agg #[.slice ao O.length co, .slice an zss.length cn]] w fun e w' => e = .returned (.bool (arenaB O zss)) ∧ Below w.heap.size w w' := by
  have hO1 := (hO.alloc (.cells #[.slice ao O.length co, .slice an zss.length cn] 29)).alloc (.cells #[.slice ao O.length co, .slice an zss.length cn] 29)
  have hN1 := (hN.alloc (.cells #[.slice ao O.length co, .slice an zss.length cn] 29)).alloc (.cells #[.slice ao O.length co, .slice an zss.length cn] 29)
  have hlO := hO.len
  have hlN := hN.len
  clear hO hN
  have HO := Lib.hid hO1
  have HN := Lib.hid hN1
  clear hO1 hN1
  by_cases h1 : O.length < 1
  · have HE : Hid (arenaB O zss = false) := arenaB_no fun h => by have := h.1; omega
    go_enter Try.func33, Try.ntmps33
    go_wp2
    go_ret
    exact ⟨ret_bool HE.out.symm, below2 _ _ _⟩
  · by_cases h2 : 256 < O.length
    · have HE : Hid (arenaB O zss = false) := arenaB_no fun h => by have := h.2.1; omega
      go_enter Try.func33, Try.ntmps33
      go_wp2
      go_ret
      exact ⟨ret_bool HE.out.symm, below2 _ _ _⟩
    · by_cases h3 : zss.length = O.length
      · have h3' : ((zss.length : Int) != (O.length : Int)) = false := by simp [h3]
        have HL := Lib.hid h3
        have h3a : zss.length ≤ O.length := by omega
        have h3b : O.length ≤ zss.length := by omega
        clear h3
        go_enter Try.func33, Try.ntmps33
        go_wp2
        go_loop [26] (fun i => ∃ k : Nat, k ≤ O.length ∧ i = .int .i64 k ∧ Hid (∀ j, j < k → VertexP O zss j)) (fun i => O.length - (intOf i).toNat)
        case atStart => exact ⟨0, Nat.zero_le _, rfl, fun j hj => absurd hj (Nat.not_lt_zero _)⟩
        case round =>
          obtain ⟨k, hk, rfl, HK⟩ := hrel
          by_cases hlt : k < O.length
          · obtain ⟨b, off, ha, hc⟩ := HO.out.cell (by omega)
            subst ha
            have hck := hc k hlt
            clear hc
            obtain ⟨bn, offn, hn, hcn⟩ := HN.out.cell (by omega)
            subst hn
            have hcnk := hcn k (by omega)
            clear hcn
            by_cases h4 : nth O k = 0 ∨ nth O k = 1
            · have h4' : (nth O k != 0) = false ∨ ((nth O k != 0) = true ∧ (nth O k != 1) = false) := by rcases h4 with h | h <;> simp [h]
              have H4 := Lib.hid h4
              clear h4
              have hltz : k < zss.length := by omega
              have HR := HN.out.rows k hltz
              have hlr := HR.len
              by_cases h5 : (row zss k).length < 1
              · have HE : Hid (arenaB O zss = false) := arenaB_vertex hlt fun h => by have := h.2.1; omega
                rcases h4' with h4' | ⟨h4', h4''⟩
                all_goals
                  go_wp2
                  go_ret
                  exact ⟨ret_bool HE.out.symm, below2 _ _ _⟩
              · by_cases h6 : 16 < (row zss k).length
                · have HE : Hid (arenaB O zss = false) := arenaB_vertex hlt fun h => by have := h.2.2.1; omega
                  rcases h4' with h4' | ⟨h4', h4''⟩
                  all_goals
                    go_wp2
                    go_ret
                    exact ⟨ret_bool HE.out.symm, below2 _ _ _⟩
                · by_cases h7 : setB O.length (row zss k) = true
                  · have HV : Hid (∀ j, j < k + 1 → VertexP O zss j) := fun j hj => by
                      by_cases hj' : j < k
                      · exact HK.out j hj'
                      · obtain rfl : j = k := by omega
                        exact ⟨H4.out, by omega, by omega, h7⟩
                    have HC := isSet_is h7 (C k) _ HR (n := O.length) (by unfold Fits; omega)
                    have HC' := Lib.hid HC
                    clear HC h7
                    rcases h4' with h4' | ⟨h4', h4''⟩
                    all_goals
                      go_wp2_with (go_at_call 43; refine HC'.out.mono ?_; rintro e w' ⟨rfl, rfl⟩)
                      go_round
                      case rel => exact ⟨k + 1, by omega, by go_num, HV⟩
                      case measure => simp [intOf]; omega
                  · have h7' : setB O.length (row zss k) = false := by simpa using h7
                    have HE : Hid (arenaB O zss = false) := arenaB_vertex hlt fun h => h7 h.2.2.2
                    have HC := isSet_is h7' (C k) _ HR (n := O.length) (by unfold Fits; omega)
                    have HC' := Lib.hid HC
                    clear HC h7 h7'
                    rcases h4' with h4' | ⟨h4', h4''⟩
                    all_goals
                      go_wp2_with (go_at_call 43; refine HC'.out.mono ?_; rintro e w' ⟨rfl, rfl⟩)
                      go_ret
                      exact ⟨ret_bool HE.out.symm, below2 _ _ _⟩
            · have HE : Hid (arenaB O zss = false) := arenaB_vertex hlt fun h => h4 h.1
              have h4' : (nth O k != 0) = true := by simp; omega
              have h4'' : (nth O k != 1) = true := by simp; omega
              clear h4
              go_wp2
              go_ret
              exact ⟨ret_bool HE.out.symm, below2 _ _ _⟩
          · have HE : Hid (arenaB O zss = true) := arenaB_yes ⟨by omega, by omega, HL.out, fun j hj => HK.out j (by omega)⟩
            go_wp2
            go_ret
            exact ⟨ret_bool HE.out.symm, below2 _ _ _⟩
      · have HE : Hid (arenaB O zss = false) := arenaB_no fun h => h3 h.2.2.1
        have h3' : ((zss.length : Int) != (O.length : Int)) = true := by simp; omega
        clear h3
        go_enter Try.func33, Try.ntmps33
        go_wp2
        go_ret
        exact ⟨ret_bool HE.out.symm, below2 _ _ _⟩

theorem ArenaOk_at {w : World} {v : Value} {O : List Int} {zss : List (List Int)} {r : Bool} (hr : arenaB O zss = r) (h : ArenaAt w v O zss) :
    Calls Try.prog 33 #[v] w fun e w' => e = .returned (.bool r) ∧ Below w.heap.size w w' := by
  obtain ⟨ao, an, co, cn, A, C, rfl, h1, h2⟩ := h
  subst hr
  exact ArenaOk_any ao an O zss co cn A C w h1 h2

end Go.Proofs.Ytjnbpllalbfeiaa
