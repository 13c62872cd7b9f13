/-
  Contract: the attractor's iterator.
-/
import Derived.Shelf.Abstract
import Derived.Shelf.RegionOpen
import Derived.OwnWalkIn
import Derived.TacticsInMore
import Derived.LoopNIn
import Derived.LoopIn
import Derived.Maps.OwnIn
import Derived.Test.YtaoagikipbcjpaaAttracted
namespace Go.Proofs.Ytaoagikipbcjpaa
open Go.RowKit Go.Shelf

attribute [local go_sem] Oper.semAt_some

theorem attracted_is (ao an aI aG : Option Addr) (lo ln co cn lI cI lG cG : Nat) (n0 : Int) (w : World) :
    Calls Try.prog 21 #[.agg #[.slice ao lo co, .slice an ln cn], .int .i64 n0, .slice aI lI cI, .slice aG lG cG] w fun e w' =>
      e = .returned (.func (.func 39) #[] #[.pointer (some ⟨w.heap.size + 2, 0, none⟩), .pointer (some ⟨w.heap.size + 3, 0, none⟩), .pointer (some ⟨w.heap.size, 0, none⟩), .pointer (some ⟨w.heap.size + 1, 0, none⟩)]) ∧
      w' = (((w.alloc (.cells #[.slice ao lo co, .slice an ln cn] 30)).alloc (.cells #[.int .i64 n0] 2)).alloc (.cells #[.slice aI lI cI] 27)).alloc (.cells #[.slice aG lG cG] 27) := by
  go_enter Try.func21, Try.ntmps21
  go_wp2
  go_ret
  exact ⟨rfl, rfl⟩

/-- What preds has left is read in every later world. -/
theorem preds_read {C : World → Nat → Prop} {W Wc : World} {s2 s3 gp gw n : Nat} {V : Nat → Value} {R : Nat → List Int} (hV : RowSet Wc s2 gp n V R) (htop : Wc.heap.size = s3) (h0 : ∀ k, C W k → k < s2) (hg : gw < s2) {u : Nat} (hu : u < n) :
    ∃ a c, ∀ A, Only (fun k => C W k ∨ k = gw ∨ s3 ≤ k) Wc A → A.cell? ⟨gp, u, none⟩ = some (.slice a (R u).length c) ∧ IntsAt A a (R u) := by
  obtain ⟨e1, -, -⟩ := hV.shape hu
  refine ⟨addrOf (V u), capOf (V u), fun A hA => ?_⟩
  have hno : ∀ b, s2 ≤ b → b < s3 → ¬ (C W b ∨ b = gw ∨ s3 ≤ b) := fun b h1 h2 hh => by
    rcases hh with hh | hh | hh
    · have := h0 b hh; omega
    · omega
    · omega
  have hgl := hV.own.lt gp rfl
  have ho := ownsRow_only hV.own hA (fun b hb => by simp [Value.ownBlock] at hb; subst hb; exact hno _ hgl.1 (by omega))
  have hr := (hV.rows u hu).only hA (fun b hb => hno b ((hV.rows u hu).own.lt b hb).1 (by have := (hV.rows u hu).top b hb; omega))
  obtain ⟨a, c, hv, hi, _⟩ := hr.shape
  have hc := ho.cellAt u (by omega)
  rw [List.getElem?_map, List.getElem?_range hu] at hc
  simp only [Option.map_some] at hc
  rw [hv]
  rw [hv] at hc
  exact ⟨hc, hi⟩

set_option maxHeartbeats 16000000 in
set_option maxRecDepth 100000 in
theorem attracted_seq {w : World} {K bI bG bA bW : Nat} {ao an aI aG : Option Addr} {co cn cI cG : Nat} {O : List Int} {zss : List (List Int)} {n0 : Int} {In G : List Int} (hok : bothB O zss n0 In G = true)
    (HR : ∀ A, Only (fun k => k = K ∨ w.heap.size ≤ k) w A → ReadsR A bI bG bA bW ao an aI aG co cn cI cG O zss n0 In G) :
    SeqC Fence.wide 3 Try.prog 39 #[.pointer (some ⟨bI, 0, none⟩), .pointer (some ⟨bG, 0, none⟩), .pointer (some ⟨bA, 0, none⟩), .pointer (some ⟨bW, 0, none⟩)] encR
      (fun k => k < w.heap.size ∧ k ≠ K) (OkR zss.length (ranksF O zss n0 In G)) (fun xs => LogP zss.length (ranksF O zss n0 In G) (fun v => 0 ≤ ranksF O zss n0 In G v) xs) w := by
  intro l C J W hW hJ hC hY h0
  obtain ⟨i0, hi, hz0, hz1, hz2⟩ := info_parts info_int
  obtain ⟨hP, -, hIB, hGB⟩ := bothB_yes hok
  have hzO := hP.2.2.1
  have hO256 := hP.2.1
  have hz256 : zss.length ≤ 256 := by omega
  have hIl : In.length ≤ 256 := by have := setB_len (Int.natCast_nonneg _) hIB; omega
  have HZ := Lib.hid (rowsP_of hP)
  have HZO := Lib.hid hzO
  have HPA := Lib.hid hP
  have HIB := Lib.hid hIB
  have HGR := Lib.hid (rises_of hGB)
  have HRH := Lib.hid HR
  have HJ := Lib.hid hJ
  have HCC := Lib.hid hC
  have HY := Lib.hid hY
  obtain ⟨R, hR⟩ : ∃ R, R = ranksF O zss n0 In G := ⟨_, rfl⟩
  have hR' : R = rkK zss O n0 (openS In In.length) (openS G G.length) zss.length := hR
  have HRR := Lib.hid hR'
  rw [← hR] at HY ⊢
  have R0 := Lib.hid (HR W (Only.of_below hW))
  have HJ0 := Lib.hid h0
  have HW := Lib.hid hW
  have c1 := R0.out.inc
  have c2 := R0.out.goc
  clear hP hIB hGB hJ hC hY h0 HR hR hR' hok hzO
  refine callsIn_of_wp Try.func39 rfl trivial ?_ rfl
  simp only [Try.ntmps39, List.size_toArray, List.length_cons, List.length_nil, Nat.reduceAdd, Nat.reduceSub, Array.replicate_succ, Array.replicate_zero, List.push_toArray, List.append_toArray, List.nil_append, List.cons_append]
  refine wpIn_wide.2 ?_
  go_wp2_with fail
  refine (split_is cI cG R0.out.ins R0.out.goal HGR.out (by omega)).mono ?_
  rintro e wa ⟨vl, vo, rfl, hl, -, hb⟩
  obtain ⟨aL, cL, hvl, -⟩ := hl.shape
  subst hvl
  obtain ⟨L0, hL0⟩ : ∃ L0, L0 = lay0 In G := ⟨_, rfl⟩
  have HL0 := Lib.hid hL0
  change OwnInts wa W.heap.size wa.heap.size (.slice aL (lay0 In G).length cL) (lay0 In G) at hl
  rw [show In.filter (inT G) = L0 from hL0.symm]
  rw [← hL0] at hl
  have hL0l : L0.length ≤ 256 := by rw [hL0]; exact Nat.le_trans (List.length_filter_le _ _) hIl
  clear hL0
  have Ra := Lib.hid (HRH.out wa (Only.of_below (HW.out.trans (hb.mono HW.out.size))))
  have HLa := Lib.hid hl
  have Ba := Lib.hid hb
  have e1 := Ra.out.box.cell0
  have e2 := Ra.out.box.cell1
  have e3 := Ra.out.who
  have e4 := Ra.out.inc
  clear hl hb c1 c2
  have hdr : Below wa.heap.size wa wa.drew := (Below.refl _ _).drew
  have Bd := Lib.hid (Ba.out.trans (hdr.mono Ba.out.size))
  have Rd := Lib.hid (HRH.out wa.drew (Only.of_below (HW.out.trans (Bd.out.mono HW.out.size))))
  have HWT := Lib.hid (waits_is (n0 := n0) cI HPA.out HIB.out Rd.out.arena Rd.out.ins)
  clear hdr
  go_wp2_with fail
  go_region_held3 (fun w' => w'.cell? ⟨bA, 0, none⟩ = some (.slice ao O.length co) ∧ w'.cell? ⟨bA, 1, none⟩ = some (.slice an zss.length cn) ∧ w'.cell? ⟨bW, 0, none⟩ = some (.int .i64 n0) ∧ w'.cell? ⟨bI, 0, none⟩ = some (.slice aI In.length cI))
    (first
      | go_keep
      | exact ⟨d0, d1, d2, d3⟩)
    (first
      | (go_at_call 41; refine HWT.out.mono ?_; rintro e wb ⟨gw, rfl, hw, hb⟩; have HFb := Lib.hid hw; have Bdb := Lib.hid hb; have Bb := Lib.hid (Bd.out.trans (hb.mono Bd.out.size)); have Rb := Lib.hid (HRH.out wb (Only.of_below (HW.out.trans (Bb.out.mono HW.out.size)))); have d0 := Rb.out.box.cell0; have d1 := Rb.out.box.cell1; have d2 := Rb.out.who; have d3 := Rb.out.inc; clear hw hb)
      | (go_at_call 42; refine (preds_is HPA.out Rb.out.arena).mono ?_; rintro e wc ⟨gp, V, rfl, hV, hb⟩; have HV := Lib.hid hV; have Bbc := Lib.hid hb; have Bc := Lib.hid (Bb.out.trans (hb.mono Bb.out.size)); have Rc := Lib.hid (HRH.out wc (Only.of_below (HW.out.trans (Bc.out.mono HW.out.size)))); have d0 := Rc.out.box.cell0; have d1 := Rc.out.box.cell1; have d2 := Rc.out.who; have d3 := Rc.out.inc; clear hV hb))
  clear d0 d1 d2 d3 HWT
  obtain ⟨s1, hs1⟩ : ∃ s1, s1 = wa.drew.heap.size := ⟨_, rfl⟩
  obtain ⟨s3, hs3⟩ : ∃ s3, s3 = wc.heap.size := ⟨_, rfl⟩
  have hle : W.heap.size ≤ s1 ∧ s1 ≤ gw ∧ gw < wb.heap.size ∧ wb.heap.size ≤ s3 ∧ wa.heap.size ≤ s1 := by
    have h1 := Bd.out.size
    have h2 := HFb.out.lt
    have h3 := Bbc.out.size
    rw [hs1, hs3]
    exact ⟨h1, h2.1, h2.2, h3, Nat.le_refl _⟩
  have HLE := Lib.hid hle
  have c0 : ∀ k, C W k → k < W.heap.size := fun k hk => (HCC.out _ _ _ HJ0.out hk).1
  have hjc := HJ.out _ _ _ HJ0.out (Only.of_below Bc.out)
  have hE : EnvR C J W wc s1 s3 gw := ⟨HJ.out, fun s A k h1 h2 => (HCC.out s A k h1 h2).1, c0, hle.1, hle.2.1, by omega, hs3.symm⟩
  have HE := Lib.hid hE
  have hw1 : OwnF wc s1 gw O.length O.length (startF O zss n0 In In.length) := by
    rw [hs1]; exact OwnF.only HFb.out (S := fun _ => False) (Only.of_below Bbc.out) (fun h => h)
  have hac : Below wa.heap.size wa wc := ((Below.refl wa.heap.size wa).drew).trans ((Bdb.out.mono (Nat.le_refl _)).trans (Bbc.out.mono (Bdb.out.size)))
  have hst : StR C J W wc s1 s3 gw O.length s3 [] (zeroF O zss n0 In G 0) (.slice aL L0.length cL) L0 (.slice none 0 0) [] wc := by
    refine ⟨hjc.1, fun k hk => .inl ((hjc.2 k).1 hk), hw1.congr fun i _ => by simp [zeroF], Only.refl _ _, ?_, fun b hb => ?_, World.ownsRow_nil _ _ _ _, fun b hb => by simp [Value.ownBlock] at hb, by omega, Nat.le_refl _⟩
    · have h := HLa.out.below hac
      exact ⟨h.own, fun g hg => by have := h.top g hg; omega, h.len, h.fits⟩
    · have h1 := HLa.out.own.lt b hb
      exact ⟨.inl (by omega), fun hk => by have := c0 b ((hjc.2 b).1 hk); omega⟩
  have HST := Lib.hid hst
  have HPR : Hid (∀ u, u < O.length → ∃ a c, ∀ A, Only (fun k => C W k ∨ k = gw ∨ s3 ≤ k) wc A → A.cell? ⟨gp, u, none⟩ = some (.slice a (predsK zss u zss.length).length c) ∧ IntsAt A a (predsK zss u zss.length)) := fun u hu =>
    preds_read HV.out hs3.symm (fun k hk => by have := c0 k hk; omega) hle.2.2.1 hu
  clear hE hw1 hac hst hjc c0 hle hs1 hs3 HFb Bbc Bdb HV
  go_wp2_with fail
  have HLP : Hid (LayP zss.length R 0 L0) := by
    rw [HRR.out, HL0.out]
    exact lay0_is HZ.out.inG (by rw [HZO.out]; exact HIB.out)
  go_loopw [32] (fun i wr => ∃ k : Nat, k ≤ L0.length ∧ i = .int .i64 k ∧ Hid (StR C J W wc s1 s3 gw O.length s3 [] (zeroF O zss n0 In G k) (.slice aL L0.length cL) L0 (.slice none 0 0) [] wr)) (fun i _ => L0.length - (intOf i).toNat)
  case atStart => exact ⟨0, Nat.zero_le _, rfl, HST⟩
  case round =>
    clear HST
    obtain ⟨k, hk, rfl, HS⟩ := hrel
    by_cases hlt : k < L0.length
    · have hi1 : (k : Int) < L0.length := by omega
      obtain ⟨sb, so, hsa, hsc⟩ := HS.out.lay.ints.cell (by omega)
      have q1 := hsc k hlt
      obtain ⟨u, hu, hul⟩ := HLP.out.verts.at hlt
      have hul' : u < O.length := by rw [← HZO.out]; exact hul
      have HU := Lib.hid hu
      rw [hu] at q1
      subst hsa
      have huO : (u : Int) < O.length := by omega
      have hu0 : (0 : Int) ≤ (u : Int) := by omega
      have fc := HS.out.wait.cell hul'
      have ff := HS.out.wait.frozen u
      have HN : Hid (StR C J W wc s1 s3 gw O.length s3 [] (zeroF O zss n0 In G (k + 1)) _ L0 (.slice none 0 0) [] (wr.setCell ⟨gw, u, none⟩ (.int .i64 0))) :=
        (HS.out.dec HE.out (v := u) (x := 0) (by unfold Fits; omega)).congr fun i _ => (zeroF_succ (by rw [← HL0.out]; exact hlt) (by rw [← HL0.out]; exact HU.out) i).symm
      clear hsc hu
      go_wp2
      go_roundw
      case rel => exact ⟨k + 1, by omega, by go_num, HN⟩
      case measure => simp [intOf]; omega
    · have hkk : k = L0.length := by omega
      have hi1 : ¬ (k : Int) < L0.length := by omega
      have hS2 := HS.out
      rw [hkk, HL0.out] at hS2
      have HM0 : Hid (MidP zss O n0 (openS In In.length) (openS G G.length) R 0 0 L0 [] (zeroF O zss n0 In G (lay0 In G).length)) := by
        rw [HRR.out, HL0.out]; exact mid0_is HZ.out
      obtain ⟨f0, hf0⟩ : ∃ f0, f0 = zeroF O zss n0 In G (lay0 In G).length := ⟨_, rfl⟩
      rw [← hf0] at HM0 hS2
      rw [← HL0.out] at hS2
      have HS0 := Lib.hid hS2
      have HLG : Hid (LogP zss.length R (PastP R 0 L0 0) []) := LogP.nil _ fun v hv hp => by
        rcases hp with h | h
        · unfold DoneR at h; omega
        · simp at h
      clear hkk hS2 hf0 HS
      go_wp2_with fail
      refine (wpIn_wide (n := 3)).1 ?_
      gi_loopw [6, 12] (fun lv rv wr => ∃ (r : Nat) (L : List Int) (vl : Value) (f : Nat → Int) (pre : List (Nat × Nat)) (sr : Nat), r ≤ zss.length + 1 ∧ rv = .int .i64 r ∧ vl = lv ∧ Hid (LayP zss.length R r L) ∧ Hid (MidP zss O n0 (openS In In.length) (openS G G.length) R r 0 L [] f) ∧ Hid (LogP zss.length R (PastP R r L 0) pre) ∧ Hid (StR C J W wc s1 s3 gw O.length sr pre f vl L (.slice none 0 0) [] wr)) (fun _ rv _ => zss.length + 2 - (intOf rv).toNat)
      case atStart => exact ⟨0, L0, _, f0, [], s3, Nat.zero_le _, rfl, rfl, HLP, HM0, HLG, HS0⟩
      case round =>
        clear HLP HM0 HLG HS0
        obtain ⟨r, L, vl, f, pre, sr, hr, rfl, rfl, HLP, HM, HLG, HS⟩ := hrel
        obtain ⟨a, c, hvl, -⟩ := HS.out.lay.shape
        subst hvl
        have hLl := HLP.out.verts.len
        by_cases hL : 0 < L.length
        · have hL0 : (0 : Int) < L.length := by omega
          have hrn : r ≤ zss.length := by
            obtain ⟨u, hu, hul⟩ := HLP.out.verts.at hL
            have h1 := (HLP.out.fresh hL hu hul).1
            have h2 := (rkK_bound (zss := zss) (O := O) (who := n0) (I := openS In In.length) (G := openS G G.length) zss.length u).2
            rw [← HRR.out] at h2
            omega
          gi_wp2_with fail
          gi_loopw [13, 47] (fun av iv wi => ∃ (i : Nat) (va : Value) (ab : List Int) (f : Nat → Int) (pre : List (Nat × Nat)), i ≤ L.length ∧ iv = .int .i64 i ∧ va = av ∧ Hid (MidP zss O n0 (openS In In.length) (openS G G.length) R r i L ab f) ∧ Hid (LogP zss.length R (PastP R r L i) pre) ∧ Hid (StR C J W wc s1 s3 gw O.length sr pre f (.slice a L.length c) L va ab wi)) (fun _ iv _ => L.length - (intOf iv).toNat)
          case atStart => exact ⟨0, _, [], f, pre, Nat.zero_le _, rfl, rfl, HM, HLG, HS⟩
          case round =>
            clear HM HLG HS
            obtain ⟨i, va, ab, f, pre, hi', rfl, rfl, HM, HLG, HS⟩ := hrel
            by_cases hlti : i < L.length
            · have hi1 : (i : Int) < L.length := by omega
              have hi0 : (0 : Int) ≤ (i : Int) := by omega
              obtain ⟨u, hu, hun⟩ := HLP.out.verts.at hlti
              obtain ⟨hru, hfr⟩ := HLP.out.fresh hlti hu hun
              have hLG' := HLG.out.snoc (P' := PastP R r L (i + 1)) (k := r) hun hru hfr (pastP_succ hlti hu)
              have hpl := hLG'.len
              rw [List.length_append, List.length_singleton] at hpl
              have HLG' := Lib.hid hLG'
              have hYY := HY.out pre (u, r) _ HS.out.j ⟨by omega, hun, hru, hrn⟩
              obtain ⟨sb, so, hsa, hsc⟩ := HS.out.lay.ints.cell hL
              have q1 := hsc i hlti
              have HU := Lib.hid hu
              have HFR := Lib.hid hfr
              have HRU := Lib.hid hru
              rw [hu] at q1
              subst hsa
              have huO' : u < O.length := by rw [← HZO.out]; exact hun
              have huO : (u : Int) < O.length := by omega
              have hu0 : (0 : Int) ≤ (u : Int) := by omega
              obtain ⟨fn, tmps, assign, body, hy, hRd⟩ := hYY
              dsimp only [encR] at hy
              clear hsc hu hLG' hru hfr
              gi_wp2_with fail
              refine hRd.mono ?_
              rintro e wy ⟨rfl, hJ3, hO3, hC3⟩
              have HSy := Lib.hid (HS.out.yield HE.out hJ3 hO3 hC3)
              obtain ⟨vs, hvs⟩ : ∃ vs, vs = predsK zss u zss.length := ⟨_, rfl⟩
              obtain ⟨ap, cp, hpr⟩ := HPR.out u huO'
              rw [← hvs] at hpr
              have HVS := Lib.hid hvs
              have HPU := Lib.hid hpr
              have p1 := (hpr wy HSy.out.only).1
              have hvl : vs.length ≤ 256 := by rw [hvs]; have := predsK_len zss u zss.length; omega
              clear hJ3 hO3 hC3 hpr hvs q1 hy hRd
              gi_wp2_with fail
              gi_loopw [13, 61] (fun av jv wi => ∃ (j : Nat) (va : Value) (ab : List Int) (f : Nat → Int), j ≤ vs.length ∧ jv = .int .i64 j ∧ va = av ∧ Hid (InP zss O n0 (openS In In.length) (openS G G.length) R r u j (PastP R r L i) ab f) ∧ Hid (StR C J W wc s1 s3 gw O.length sr (pre ++ [(u, r)]) f (.slice (some ⟨sb, so, none⟩) L.length c) L va ab wi)) (fun _ jv _ => vs.length - (intOf jv).toNat)
              case atStart => exact ⟨0, _, ab, f, Nat.zero_le _, rfl, rfl, InP.start HM.out, HSy⟩
              case round =>
                clear HM HSy HS
                obtain ⟨j, va, ab, f, hj, rfl, rfl, HIN, HS⟩ := hrel
                have hIu : openS In In.length u = true := by
                  have h := HRU.out
                  rw [HRR.out] at h
                  exact rkK_mem (by rw [h]; omega)
                by_cases hltj : j < vs.length
                · have hj1 : (j : Int) < vs.length := by omega
                  have hj0 : (0 : Int) ≤ (j : Int) := by omega
                  obtain ⟨pb, po, hpa, hpc⟩ := (HPU.out _ HS.out.only).2.cell (by omega)
                  have q2 := hpc j hltj
                  have hltj' : j < (predsK zss u zss.length).length := by rw [← HVS.out]; exact hltj
                  obtain ⟨v, hv, hvn⟩ : ∃ v : Nat, nth vs j = (v : Int) ∧ v < zss.length := by
                    rw [HVS.out]
                    obtain ⟨v, h1, h2, _⟩ := (predsK_iff _ _ _ _).1 (nth_mem hltj')
                    exact ⟨v, h1, h2⟩
                  have hvj : nth (predsK zss u zss.length) j = (v : Int) := by rw [← HVS.out]; exact hv
                  rw [hv] at q2
                  subst hpa
                  have hvO' : v < O.length := by rw [← HZO.out]; exact hvn
                  have hvO : (v : Int) < O.length := by omega
                  have hv0 : (0 : Int) ≤ (v : Int) := by omega
                  have fc := HS.out.wait.cell hvO'
                  have ff := HS.out.wait.frozen v
                  have HVJ := Lib.hid hvj
                  have HLJ := Lib.hid hltj'
                  have hbd : 0 ≤ f v ∧ f v ≤ 17 := by
                    have h16 := (HPA.out.2.2.2 v hvO').2.2.1
                    rw [HIN.out.waits v hvn]
                    split
                    · have := waitF_bound (zss := zss) (O := O) (who := n0) (I := openS In In.length) (G := openS G G.length) (AddP (PastP R r L i) u) v
                      omega
                    · have := waitF_bound (zss := zss) (O := O) (who := n0) (I := openS In In.length) (G := openS G G.length) (PastP R r L i) v
                      omega
                  have hDN : Hid (∀ x, x < zss.length → DoneR R (r + 1) x → QueP zss O n0 (openS In In.length) (openS G G.length) (PastP R r L i) x) := fun x hx hd => by
                    rw [HRR.out] at hd
                    have h := (doneR_succ HZ.out.inG r hx).1 hd
                    rw [← HRR.out] at h
                    exact h.mono fun y _ hy => .inl hy
                  have HAL := Lib.hid HIN.out.verts.len
                  have hal := HAL.out
                  have hbig := HS.out.big
                  clear hpc hv hvj hltj'
                  by_cases hq0 : f v = 0
                  · have HNX := Lib.hid (HIN.out.pass HZ.out hIu HFR.out HLJ.out HVJ.out hq0)
                    rw [hq0] at fc
                    clear hq0 hbd
                    gi_wp2
                    go_roundw
                    case rel => exact ⟨j + 1, va, ab, f, by omega, by go_num, rfl, HNX, HS⟩
                    case measure => simp [intOf]; omega
                  · by_cases hq1 : f v - 1 = 0
                    · have HNX := Lib.hid (HIN.out.next HZ.out hIu HFR.out hDN.out HLJ.out HVJ.out hq0 hq1)
                      have HSD := Lib.hid (HS.out.dec HE.out (v := v) (x := 0) (by unfold Fits; omega))
                      have hq : f v = 1 := by omega
                      rw [hq1] at HNX
                      rw [hq] at fc
                      have hd : (wr.setCell ⟨gw, v, none⟩ (.int .i64 0)).cell? ⟨gw, v, none⟩ = some (.int .i64 0) := World.cell?_setCell_same' _ _ _ (by rw [fc]; rfl)
                      have hbs := HSD.out.big
                      clear hq hq0 hq1 hbd
                      gi_wp2_with (gi_at_builtin; refine wpListIn_append_own_at _ rfl _ _ 27 rfl sr 2 i0 (.int .i64 0) 1 8 Try.underlying27 hi hz0 hz1 hz2 rfl (by decide) _ _ _ rfl (HSD.out.abv.alloc _) ⟨wr.heap.size, 0, none⟩ 1 1 [.int .i64 v] rfl rfl ?c1 ?c2 ?c3 ?c4 ?c5 ?_)
                      case c1 => simpa using cell_one_new (wr.setCell ⟨gw, v, none⟩ (.int .i64 0)) (.int .i64 v) 2
                      case c2 => simp [Value.oneCell']
                      case c3 => unfold maxLen; omega
                      case c4 => omega
                      case c5 => simp; omega
                      intro v' w1 hown hgrow _ hwh
                      have HSn := Lib.hid (HSD.out.app HE.out (A' := w1) (va' := v') (ab' := ab ++ [(v : Int)]) ((Only.of_below (below1 _ _)).trans (Only.of_grown hgrow)) (by rw [List.length_append, List.map_append]; exact hown) (by
                        rcases hwh with h | h
                        · exact .inl h
                        · exact .inr ⟨_, h, by simp⟩))
                      clear hown hgrow hwh hbs hd fc ff
                      gi_wp2
                      go_roundw
                      case rel => exact ⟨j + 1, v', ab ++ [(v : Int)], _, by omega, by go_num, rfl, HNX, HSn⟩
                      case measure => simp [intOf]; omega
                    · have HNX := Lib.hid (HIN.out.less HZ.out hIu HFR.out HLJ.out HVJ.out hq0 hq1)
                      obtain ⟨q, hq⟩ : ∃ q, q = f v := ⟨_, rfl⟩
                      rw [← hq] at HNX fc hq0 hq1 hbd
                      have HSD := Lib.hid (HS.out.dec HE.out (v := v) (x := q - 1) (by unfold Fits; omega))
                      have hd : (wr.setCell ⟨gw, v, none⟩ (.int .i64 (q - 1))).cell? ⟨gw, v, none⟩ = some (.int .i64 (q - 1)) := World.cell?_setCell_same' _ _ _ (by rw [fc]; rfl)
                      have hqe : (q == 0) = false := beq_eq_false_iff_ne.2 hq0
                      have hqe1 : (q - 1 == 0) = false := beq_eq_false_iff_ne.2 hq1
                      have hqb : 0 ≤ q := hbd.1
                      have hqc : q ≤ 17 := hbd.2
                      clear hq hq0 hq1 hbd
                      gi_wp2
                      go_roundw
                      case rel => exact ⟨j + 1, va, ab, _, by omega, by go_num, rfl, HNX, HSD⟩
                      case measure => simp [intOf]; omega
                · have hj1 : ¬ (j : Int) < vs.length := by omega
                  have hjj : j = (predsK zss u zss.length).length := by rw [← HVS.out]; omega
                  have hin := HIN.out
                  rw [hjj] at hin
                  have HMn := Lib.hid (InP.full HZ.out hlti HU.out hin)
                  clear hjj hin
                  gi_wp2
                  go_roundw
                  case rel => exact ⟨i + 1, va, ab, f, pre ++ [(u, r)], by omega, by go_num, rfl, HMn, HLG', HS⟩
                  case measure => simp [intOf]; omega
            · have hi1 : ¬ (i : Int) < L.length := by omega
              have hii : i = L.length := by omega
              have hm := HM.out
              have hlg := HLG.out
              have hlp := HLP.out
              rw [hii] at hm hlg
              have HLGn : Hid (LogP zss.length R (PastP R (r + 1) ab 0) pre) := hlg.congr fun v hv => pastP_full hlp hv
              have hfu : LayP zss.length R (r + 1) ab ∧ MidP zss O n0 (openS In In.length) (openS G G.length) R (r + 1) 0 ab [] f := by
                rw [HRR.out] at hm hlp ⊢
                exact MidP.full HZ.out hlp hm
              have HLPn := Lib.hid hfu.1
              have HMn := Lib.hid hfu.2
              have HSn := Lib.hid (HS.out.next HE.out (by have := hm.verts.len; omega) (hm.verts.fits (by omega)))
              clear hii hm hlg hlp hfu
              gi_wp2
              go_roundw
              case rel => exact ⟨r + 1, ab, va, f, pre, _, by omega, by go_num, rfl, HLPn, HMn, HLGn, HSn⟩
              case measure => simp [intOf]; omega
        · have hL0 : ¬ (0 : Int) < L.length := by omega
          have HEND : Hid (LogP zss.length R (fun v => 0 ≤ R v) pre) := by
            have hnil : L = [] := List.length_eq_zero_iff.1 (by omega)
            refine HLG.out.congr fun v hv => ?_
            have hno : ∀ x, x < zss.length → R x ≠ r := fun x hx e => by
              have := (HLP.out.is x hx).2 e
              rw [hnil] at this; cases this
            have h := fun h0 => layers_end (O := O) (who := n0) (I := openS In In.length) (Gl := openS G G.length) HZ.out.inG (r := r) h0 v hv
            rw [← HRR.out] at h
            rw [← h hno]
            unfold PastP
            simp
          gi_wp2
          go_end0
          exact ⟨⟨_, rfl⟩, pre, HEND.out, HS.out.j⟩

end Go.Proofs.Ytaoagikipbcjpaa
