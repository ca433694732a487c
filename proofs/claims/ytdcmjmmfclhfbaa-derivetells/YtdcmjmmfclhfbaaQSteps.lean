/- The document's 64 steps, walked: a loop by itself. For eight numbers of 32 bits and 64 more. -/
import Derived.Test.YtdcmjmmfclhfbaaQCut
namespace Go.Proofs.Ytdcmjmmfclhfbaa
open Go.RowKit Bk
set_option linter.unusedVariables false
set_option linter.unusedSimpArgs false

set_option maxRecDepth 1000000 in
set_option maxHeartbeats 16000000 in
theorem qsteps {Q0 : Exit → Act → World → Prop} {c0 c1 c2 c3 c5 c6 c7 c8 c9 c10 c11 c13 c14 c15 c16 c19 c20 c21 c22 c23 c24 c25 c26 c27 c28 c29 c30 c31 c32 c33 c34 c35 c36 c37 c38 c39 c40 c41 c42 c43 c44 c45 c46 c47 c48 c49 c50 c51 c52 c53 c54 c55 c56 c57 c58 c59 c60 c61 c62 c63 c64 c65 c66 c67 c68 c69 c70 c71 c72 c73 c74 c75 c76 c77 c78 c79 c80 c81 c82 c83 c84 c85 c86 c87 c88 c89 c90 c91 c92 c93 c94 c95 c96 c97 c98 c99 c100 c101 c102 c103 c104 c105 c106 c107 c108 c109 c110 c111 c112 c113 c114 c115 c116 c117 c118 c119 c120 c121 c122 c123 c124 c125 c126 c127 c128 c129 c130 c131 c132 c133 c134 c135 c136 c137 c138 c139 c140 c141 c142 c143 c144 c145 c146 c147 c148 c149 c150 c151 c152 c153 c154 c155 c156 c157 c158 c159 c160 c161 c162 c163 c164 c165 c166 c167 c168 c169 c170 c171 c172 c173 c174 c175 c176 c177 c178 c179 c180 c181 c182 c183 c184 c185 c186 c187 c188 c189 c190 c191 c192 c193 c194 c195 c196 c197 c198 c199 c200 c201 c202 c203 c204 c205 c206 c207 c208 c209 c210 c211 c212 c213 c214 c215 c216 c217 c218 c219 c220 c221 c222 c223 c224 c225 c226 c227 c228 c229 c230 c231 c232 c233 c234 c235 c236 c237 c238 c239 c240 c241 c242 c243 c244 c245 c246 c247 c248 c249 c250 c251 c252 c253 c254 c255 c256 c257 c258 c259 c260 c261 c262 c263 c264 c265 c266 c267 c268 c269 c270 c271 c272 c273 c274 c275 c276 c277 c278 c279 c280 c281 c282 c283 c284 c285 c286 c287 c288 c289 c290 c291 c292 c293 c294 c295 c296 c297 c298 c299 c300 c301 c302 c303 c304 c305 c306 c307 c308 c309 c310 c311 c312 c313 c314 c315 c316 c317 c318 c319 c320 c321 c322 c323 c324 c325 c326 c327 c328 c329 c330 c331 c332 c333 c334 c335 c336 c337 c338 c339 c340 c341 c342 c343 c344 c345 c346 c347 c348 c349 : Value} {wq wc : World} {g4 k4 gm km gc cc : Nat} {W H : List Nat} (nH : H.length = 8) (lH : Lt H) (nW : W.length = 64) (hR4 : Row wc g4 0 (us skc)) (hRm : Row wc gm 0 (us W)) (hRc : Row wc gc 0 (us H)) (hcc : 8 ≤ cc) (hqc : wq.heap.size ≤ gc)
    (hexit : ∀ (u17 u18 u19 u20 u181 u182 u183 u184 u185 u186 u187 u188 u189 u190 u191 u192 u193 u194 u195 u196 u197 u198 u199 u200 u201 u202 u203 u204 u205 u206 u207 u208 u209 u210 u211 u212 u213 u214 u215 u216 u217 u218 u219 u220 u221 u222 u223 u224 u225 u226 u227 u228 u229 u230 u231 u232 u233 u234 u235 u236 u237 u238 u239 u240 u241 u242 u243 u244 u245 u246 u247 u248 u249 u250 u251 u252 u253 u254 u255 u256 u257 u258 u259 u260 u261 u262 u263 u264 u265 u266 u267 u268 u269 u270 u271 u272 u273 u274 u275 u276 u277 u278 u279 u280 u281 u282 u283 u284 u285 u286 u287 u288 u289 u290 u291 u292 u293 u294 : Value) (wr : World), (∃ g9 c9, u17 = .slice (some ⟨g9, 0, none⟩) 8 c9 ∧ 8 ≤ c9 ∧ Row wr g9 0 (us (srd skc W H 64)) ∧ wq.heap.size ≤ g9 ∧ Below wc.heap.size wc wr) → Q0 (.exit 10) ⟨List.toArray (c0 :: c1 :: c2 :: c3 :: .slice (some ⟨g4, 0, none⟩) 64 k4 :: c5 :: c6 :: c7 :: c8 :: c9 :: c10 :: c11 :: .slice (some ⟨gm, 0, none⟩) 64 km :: c13 :: c14 :: c15 :: c16 :: u17 :: u18 :: u19 :: u20 :: c21 :: c22 :: c23 :: c24 :: c25 :: c26 :: c27 :: c28 :: c29 :: c30 :: c31 :: c32 :: c33 :: c34 :: c35 :: c36 :: c37 :: c38 :: c39 :: c40 :: c41 :: c42 :: c43 :: c44 :: c45 :: c46 :: c47 :: c48 :: c49 :: c50 :: c51 :: c52 :: c53 :: c54 :: c55 :: c56 :: c57 :: c58 :: c59 :: c60 :: c61 :: c62 :: c63 :: c64 :: c65 :: c66 :: c67 :: c68 :: c69 :: c70 :: c71 :: c72 :: c73 :: c74 :: c75 :: c76 :: c77 :: c78 :: c79 :: c80 :: c81 :: c82 :: c83 :: c84 :: c85 :: c86 :: c87 :: c88 :: c89 :: c90 :: c91 :: c92 :: c93 :: c94 :: c95 :: c96 :: c97 :: c98 :: c99 :: c100 :: c101 :: c102 :: c103 :: c104 :: c105 :: c106 :: c107 :: c108 :: c109 :: c110 :: c111 :: c112 :: c113 :: c114 :: c115 :: c116 :: c117 :: c118 :: c119 :: c120 :: c121 :: c122 :: c123 :: c124 :: c125 :: c126 :: c127 :: c128 :: c129 :: c130 :: c131 :: c132 :: c133 :: c134 :: c135 :: c136 :: c137 :: c138 :: c139 :: c140 :: c141 :: c142 :: c143 :: c144 :: c145 :: c146 :: c147 :: c148 :: c149 :: c150 :: c151 :: c152 :: c153 :: c154 :: c155 :: c156 :: c157 :: c158 :: c159 :: c160 :: c161 :: c162 :: c163 :: c164 :: c165 :: c166 :: c167 :: c168 :: c169 :: c170 :: c171 :: c172 :: c173 :: c174 :: c175 :: c176 :: c177 :: c178 :: c179 :: c180 :: u181 :: u182 :: u183 :: u184 :: u185 :: u186 :: u187 :: u188 :: u189 :: u190 :: u191 :: u192 :: u193 :: u194 :: u195 :: u196 :: u197 :: u198 :: u199 :: u200 :: u201 :: u202 :: u203 :: u204 :: u205 :: u206 :: u207 :: u208 :: u209 :: u210 :: u211 :: u212 :: u213 :: u214 :: u215 :: u216 :: u217 :: u218 :: u219 :: u220 :: u221 :: u222 :: u223 :: u224 :: u225 :: u226 :: u227 :: u228 :: u229 :: u230 :: u231 :: u232 :: u233 :: u234 :: u235 :: u236 :: u237 :: u238 :: u239 :: u240 :: u241 :: u242 :: u243 :: u244 :: u245 :: u246 :: u247 :: u248 :: u249 :: u250 :: u251 :: u252 :: u253 :: u254 :: u255 :: u256 :: u257 :: u258 :: u259 :: u260 :: u261 :: u262 :: u263 :: u264 :: u265 :: u266 :: u267 :: u268 :: u269 :: u270 :: u271 :: u272 :: u273 :: u274 :: u275 :: u276 :: u277 :: u278 :: u279 :: u280 :: u281 :: u282 :: u283 :: u284 :: u285 :: u286 :: u287 :: u288 :: u289 :: u290 :: u291 :: u292 :: u293 :: u294 :: c295 :: c296 :: c297 :: c298 :: c299 :: c300 :: c301 :: c302 :: c303 :: c304 :: c305 :: c306 :: c307 :: c308 :: c309 :: c310 :: c311 :: c312 :: c313 :: c314 :: c315 :: c316 :: c317 :: c318 :: c319 :: c320 :: c321 :: c322 :: c323 :: c324 :: c325 :: c326 :: c327 :: c328 :: c329 :: c330 :: c331 :: c332 :: c333 :: c334 :: c335 :: c336 :: c337 :: c338 :: c339 :: c340 :: c341 :: c342 :: c343 :: c344 :: c345 :: c346 :: c347 :: c348 :: c349 :: []), []⟩ wr) :
    Code.wp Try.prog ((Try.f28.body.bind (blockAt 10)).getD .skip) Q0 ⟨List.toArray (c0 :: c1 :: c2 :: c3 :: .slice (some ⟨g4, 0, none⟩) 64 k4 :: c5 :: c6 :: c7 :: c8 :: c9 :: c10 :: c11 :: .slice (some ⟨gm, 0, none⟩) 64 km :: c13 :: c14 :: c15 :: c16 :: .slice (some ⟨gc, 0, none⟩) 8 cc :: .int .i64 0 :: c19 :: c20 :: c21 :: c22 :: c23 :: c24 :: c25 :: c26 :: c27 :: c28 :: c29 :: c30 :: c31 :: c32 :: c33 :: c34 :: c35 :: c36 :: c37 :: c38 :: c39 :: c40 :: c41 :: c42 :: c43 :: c44 :: c45 :: c46 :: c47 :: c48 :: c49 :: c50 :: c51 :: c52 :: c53 :: c54 :: c55 :: c56 :: c57 :: c58 :: c59 :: c60 :: c61 :: c62 :: c63 :: c64 :: c65 :: c66 :: c67 :: c68 :: c69 :: c70 :: c71 :: c72 :: c73 :: c74 :: c75 :: c76 :: c77 :: c78 :: c79 :: c80 :: c81 :: c82 :: c83 :: c84 :: c85 :: c86 :: c87 :: c88 :: c89 :: c90 :: c91 :: c92 :: c93 :: c94 :: c95 :: c96 :: c97 :: c98 :: c99 :: c100 :: c101 :: c102 :: c103 :: c104 :: c105 :: c106 :: c107 :: c108 :: c109 :: c110 :: c111 :: c112 :: c113 :: c114 :: c115 :: c116 :: c117 :: c118 :: c119 :: c120 :: c121 :: c122 :: c123 :: c124 :: c125 :: c126 :: c127 :: c128 :: c129 :: c130 :: c131 :: c132 :: c133 :: c134 :: c135 :: c136 :: c137 :: c138 :: c139 :: c140 :: c141 :: c142 :: c143 :: c144 :: c145 :: c146 :: c147 :: c148 :: c149 :: c150 :: c151 :: c152 :: c153 :: c154 :: c155 :: c156 :: c157 :: c158 :: c159 :: c160 :: c161 :: c162 :: c163 :: c164 :: c165 :: c166 :: c167 :: c168 :: c169 :: c170 :: c171 :: c172 :: c173 :: c174 :: c175 :: c176 :: c177 :: c178 :: c179 :: c180 :: c181 :: c182 :: c183 :: c184 :: c185 :: c186 :: c187 :: c188 :: c189 :: c190 :: c191 :: c192 :: c193 :: c194 :: c195 :: c196 :: c197 :: c198 :: c199 :: c200 :: c201 :: c202 :: c203 :: c204 :: c205 :: c206 :: c207 :: c208 :: c209 :: c210 :: c211 :: c212 :: c213 :: c214 :: c215 :: c216 :: c217 :: c218 :: c219 :: c220 :: c221 :: c222 :: c223 :: c224 :: c225 :: c226 :: c227 :: c228 :: c229 :: c230 :: c231 :: c232 :: c233 :: c234 :: c235 :: c236 :: c237 :: c238 :: c239 :: c240 :: c241 :: c242 :: c243 :: c244 :: c245 :: c246 :: c247 :: c248 :: c249 :: c250 :: c251 :: c252 :: c253 :: c254 :: c255 :: c256 :: c257 :: c258 :: c259 :: c260 :: c261 :: c262 :: c263 :: c264 :: c265 :: c266 :: c267 :: c268 :: c269 :: c270 :: c271 :: c272 :: c273 :: c274 :: c275 :: c276 :: c277 :: c278 :: c279 :: c280 :: c281 :: c282 :: c283 :: c284 :: c285 :: c286 :: c287 :: c288 :: c289 :: c290 :: c291 :: c292 :: c293 :: c294 :: c295 :: c296 :: c297 :: c298 :: c299 :: c300 :: c301 :: c302 :: c303 :: c304 :: c305 :: c306 :: c307 :: c308 :: c309 :: c310 :: c311 :: c312 :: c313 :: c314 :: c315 :: c316 :: c317 :: c318 :: c319 :: c320 :: c321 :: c322 :: c323 :: c324 :: c325 :: c326 :: c327 :: c328 :: c329 :: c330 :: c331 :: c332 :: c333 :: c334 :: c335 :: c336 :: c337 :: c338 :: c339 :: c340 :: c341 :: c342 :: c343 :: c344 :: c345 :: c346 :: c347 :: c348 :: c349 :: []), []⟩ wc := by
  conv => arg 2; whnf
  have HRc := hide hRc
  have HRm2 := hide hRm
  have HR4' := hide hR4
  have HLH := hide lH
  have HQC := hide hqc
  have hccI : (8 : Int) ≤ (cc : Int) := by omega
  clear hRc hRm hR4 lH hqc
  go_loopg [17, 18, 19, 20] 64 (fun g v tt _ _ wr => ∃ i g9 c9 : Nat, i + g = 64 ∧ tt = .int .i64 i ∧ v = .slice (some ⟨g9, 0, none⟩) 8 c9 ∧ 8 ≤ c9 ∧ Row wr g9 0 (us (srd skc W H i)) ∧ wq.heap.size ≤ g9 ∧ Below wc.heap.size wc wr)
  case atStart => exact ⟨0, gc, cc, rfl, rfl, rfl, by omega, HRc.out, HQC.out, Below.refl _ _⟩
  case round =>
    have hqq : wq.heap.size ≤ wc.heap.size := Nat.le_trans HQC.out (Nat.le_of_lt HRc.out.lt)
    clear HRc
    obtain ⟨i, gv, cv, hig, rfl, rfl, hcv, hRv, hgv, hBl⟩ := hrel
    have HRv := hide hRv
    have HBv := hide hBl
    have HGV := hide hgv
    have hcvI : (8 : Int) ≤ (cv : Int) := by omega
    clear hRv hBl hgv
    by_cases hi64 : i < 64
    · obtain ⟨g5, rfl⟩ : ∃ g5, gk = g5 + 1 := ⟨gk - 1, by omega⟩
      have hi64I : (i : Int) < 64 := by omega
      have HI := hide (show i + 1 + g5 = 64 by omega)
      have hS : srd skc W H (i + 1) = ss1 (srd skc W H i) (at' skc i) (at' W i) := rfl
      have lV : Lt (srd skc W H i) := srd_lt HLH.out skc W i
      obtain ⟨V, eV⟩ : ∃ V, srd skc W H i = V := ⟨_, rfl⟩
      have nV : V.length = 8 := eV ▸ srd_length nH skc W i
      rw [eV] at hS lV HRv
      obtain ⟨x0, x1, x2, x3, x4, x5, x6, x7, rfl⟩ := eight nV
      have R4v := HR4'.out.here HBv.out (Nat.le_refl _)
      have ck := R4v.u0 i (by rw [skc_length]; exact hi64)
      have cw := (HRm2.out.here HBv.out (Nat.le_refl _)).u0 i (by rw [nW]; exact hi64)
      have c0 := HRv.out.u0 0 (by simp)
      have c1 := HRv.out.u0 1 (by simp)
      have c2 := HRv.out.u0 2 (by simp)
      have c3 := HRv.out.u0 3 (by simp)
      have c4 := HRv.out.u0 4 (by simp)
      have c5 := HRv.out.u0 5 (by simp)
      have c6 := HRv.out.u0 6 (by simp)
      have c7 := HRv.out.u0 7 (by simp)
      have m0 : Bk.at' [x0, x1, x2, x3, x4, x5, x6, x7] 0 = x0 := rfl
      have m1 : Bk.at' [x0, x1, x2, x3, x4, x5, x6, x7] 1 = x1 := rfl
      have m2 : Bk.at' [x0, x1, x2, x3, x4, x5, x6, x7] 2 = x2 := rfl
      have m3 : Bk.at' [x0, x1, x2, x3, x4, x5, x6, x7] 3 = x3 := rfl
      have m4 : Bk.at' [x0, x1, x2, x3, x4, x5, x6, x7] 4 = x4 := rfl
      have m5 : Bk.at' [x0, x1, x2, x3, x4, x5, x6, x7] 5 = x5 := rfl
      have m6 : Bk.at' [x0, x1, x2, x3, x4, x5, x6, x7] 6 = x6 := rfl
      have m7 : Bk.at' [x0, x1, x2, x3, x4, x5, x6, x7] 7 = x7 := rfl
      have l0 : x0 < 4294967296 := lV 0
      have l1 : x1 < 4294967296 := lV 1
      have l2 : x2 < 4294967296 := lV 2
      have l4 : x4 < 4294967296 := lV 4
      have l5 : x5 < 4294967296 := lV 5
      have l6 : x6 < 4294967296 := lV 6
      rw [m0] at c0
      rw [m1] at c1
      rw [m2] at c2
      rw [m3] at c3
      rw [m4] at c4
      rw [m5] at c5
      rw [m6] at c6
      rw [m7] at c7
      clear m0 m1 m2 m3 m4 m5 m6 m7 R4v
      obtain ⟨kk, ekk⟩ : ∃ z, at' skc i = z := ⟨_, rfl⟩
      obtain ⟨ww, eww⟩ : ∃ z, at' W i = z := ⟨_, rfl⟩
      rw [ekk] at ck hS
      rw [eww] at cw hS
      have hS2 : ss1 [x0, x1, x2, x3, x4, x5, x6, x7] kk ww = [ad (sx x4 x5 x6 x7 kk ww) (sy x0 x1 x2), x0, x1, x2, ad x3 (sx x4 x5 x6 x7 kk ww), x4, x5, x6] := rfl
      rw [hS2] at hS
      clear hS2 lV nV
      obtain ⟨xx, exx⟩ : ∃ z, sx x4 x5 x6 x7 kk ww = z := ⟨_, rfl⟩
      obtain ⟨yy, eyy⟩ : ∃ z, sy x0 x1 x2 = z := ⟨_, rfl⟩
      rw [exx, eyy] at hS
      unfold sx sE sch at exx
      unfold sy sA smj at eyy
      obtain ⟨a6, ea6⟩ : ∃ z, tu 6 x4 = z := ⟨_, rfl⟩
      obtain ⟨a11, ea11⟩ : ∃ z, tu 11 x4 = z := ⟨_, rfl⟩
      obtain ⟨a25, ea25⟩ : ∃ z, tu 25 x4 = z := ⟨_, rfl⟩
      obtain ⟨b2, eb2⟩ : ∃ z, tu 2 x0 = z := ⟨_, rfl⟩
      obtain ⟨b13, eb13⟩ : ∃ z, tu 13 x0 = z := ⟨_, rfl⟩
      obtain ⟨b22, eb22⟩ : ∃ z, tu 22 x0 = z := ⟨_, rfl⟩
      have la6 : a6 < 4294967296 := ea6 ▸ tu_lt l4
      have la11 : a11 < 4294967296 := ea11 ▸ tu_lt l4
      have la25 : a25 < 4294967296 := ea25 ▸ tu_lt l4
      have lb2 : b2 < 4294967296 := eb2 ▸ tu_lt l0
      have lb13 : b13 < 4294967296 := eb13 ▸ tu_lt l0
      have lb22 : b22 < 4294967296 := eb22 ▸ tu_lt l0
      rw [ea6, ea11, ea25] at exx
      rw [eb2, eb13, eb22] at eyy
      have r1 := xr_int la6 la11
      have lo1 := xr_lt la6 la11
      obtain ⟨o1, eo1⟩ : ∃ z, a6 ^^^ a11 = z := ⟨_, rfl⟩
      rw [eo1] at r1 exx lo1
      have r2 := xr_int lo1 la25
      obtain ⟨o2, eo2⟩ : ∃ z, o1 ^^^ a25 = z := ⟨_, rfl⟩
      rw [eo2] at r2 exx
      have r3 := ad_wrap x7 o2
      obtain ⟨p1, ep1⟩ : ∃ z, ad x7 o2 = z := ⟨_, rfl⟩
      rw [ep1] at r3 exx
      have r4 := an_int l4 l5
      have ln1 := an_lt (b := x5) l4
      obtain ⟨n1, en1⟩ : ∃ z, x4 &&& x5 = z := ⟨_, rfl⟩
      rw [en1] at r4 exx ln1
      have r5 := not_int l4
      have lno : 4294967295 - x4 < 4294967296 := Nat.lt_of_le_of_lt (Nat.sub_le _ _) (by decide)
      obtain ⟨no, eno⟩ : ∃ z, 4294967295 - x4 = z := ⟨_, rfl⟩
      rw [eno] at r5 exx lno
      have r6 := an_int lno l6
      have ln2 := an_lt (b := x6) lno
      obtain ⟨n2, en2⟩ : ∃ z, no &&& x6 = z := ⟨_, rfl⟩
      rw [en2] at r6 exx ln2
      have r7 := xr_int ln1 ln2
      obtain ⟨ch, ech⟩ : ∃ z, n1 ^^^ n2 = z := ⟨_, rfl⟩
      rw [ech] at r7 exx
      have r8 := ad_wrap p1 ch
      obtain ⟨p2, ep2⟩ : ∃ z, ad p1 ch = z := ⟨_, rfl⟩
      rw [ep2] at r8 exx
      have r9 := ad_wrap p2 kk
      obtain ⟨p3, ep3⟩ : ∃ z, ad p2 kk = z := ⟨_, rfl⟩
      rw [ep3] at r9 exx
      have r10 := ad_wrap p3 ww
      rw [exx] at r10
      have s1 := xr_int lb2 lb13
      have lq1 := xr_lt lb2 lb13
      obtain ⟨q1, eq1⟩ : ∃ z, b2 ^^^ b13 = z := ⟨_, rfl⟩
      rw [eq1] at s1 eyy lq1
      have s2 := xr_int lq1 lb22
      obtain ⟨q2, eq2⟩ : ∃ z, q1 ^^^ b22 = z := ⟨_, rfl⟩
      rw [eq2] at s2 eyy
      have s3 := an_int l0 l1
      have lm1 := an_lt (b := x1) l0
      obtain ⟨j1, ej1⟩ : ∃ z, x0 &&& x1 = z := ⟨_, rfl⟩
      rw [ej1] at s3 eyy lm1
      have s4 := an_int l0 l2
      have lm2 := an_lt (b := x2) l0
      obtain ⟨j2, ej2⟩ : ∃ z, x0 &&& x2 = z := ⟨_, rfl⟩
      rw [ej2] at s4 eyy lm2
      have s5 := an_int l1 l2
      have lm3 := an_lt (b := x2) l1
      obtain ⟨j3, ej3⟩ : ∃ z, x1 &&& x2 = z := ⟨_, rfl⟩
      rw [ej3] at s5 eyy lm3
      have s6 := xr_int lm1 lm2
      have lj4 := xr_lt lm1 lm2
      obtain ⟨j4, ej4⟩ : ∃ z, j1 ^^^ j2 = z := ⟨_, rfl⟩
      rw [ej4] at s6 eyy lj4
      have s7 := xr_int lj4 lm3
      obtain ⟨j5, ej5⟩ : ∃ z, j4 ^^^ j3 = z := ⟨_, rfl⟩
      rw [ej5] at s7 eyy
      have s8 := ad_wrap q2 j5
      rw [eyy] at s8
      have v1 := ad_wrap xx yy
      obtain ⟨z0, ez0⟩ : ∃ z, ad xx yy = z := ⟨_, rfl⟩
      rw [ez0] at v1 hS
      have v2 := ad_wrap x3 xx
      obtain ⟨z4, ez4⟩ : ∃ z, ad x3 xx = z := ⟨_, rfl⟩
      rw [ez4] at v2 hS
      have HS := hide hS
      have L0 := hide l0
      have L4 := hide l4
      have E6 := hide ea6
      have E11 := hide ea11
      have E25 := hide ea25
      have E2 := hide eb2
      have E13 := hide eb13
      have E22 := hide eb22
      clear hS eV l0 l1 l2 l4 l5 l6 ekk eww exx eyy ea6 ea11 ea25 eb2 eb13 eb22 la6 la11 la25 lb2 lb13 lb22 lo1 eo1 eo2 ep1 ln1 en1 lno eno ln2 en2 ech ep2 ep3 lq1 eq1 eq2 lm1 ej1 lm2 ej2 lm3 ej3 lj4 ej4 ej5 ez0 ez4 hig hi64
      have sg : IntKind.u32.signed = false := rfl
      have mx' : IntKind.u32.max = 4294967295 := by decide
      go_wp2_with fail
      refine wp_region_still_tail 45 (by kernel_rfl) (by kernel_rfl) ?_
      simp only [List.take_succ_cons, List.take_zero, List.drop_succ_cons, List.drop_zero]
      repeat still_step
      still_call (qturn6e _ L4.out E6.out)
      repeat still_step
      still_call (qturn11e _ L4.out E11.out)
      repeat still_step
      still_call (qturn25e _ L4.out E25.out)
      repeat still_step
      refine wpStill_nil ?_
      clear r1 r2 r3 r4 r5 r6 r7 r8 r9 r10 ck cw
      go_wp2_with fail
      generalize hX : ({ heap := wr.heap, tape := wr.tape, drawn := wr.drawn + 1, os := wr.os, output := wr.output } : World) = Wa
      have hd : wr.drew = Wa := hX
      replace c0 : Wa.cell? ⟨gv, 0, none⟩ = some (.int .u32 (x0 : Int)) := by rw [← hd]; exact c0
      replace c1 : Wa.cell? ⟨gv, 1, none⟩ = some (.int .u32 (x1 : Int)) := by rw [← hd]; exact c1
      replace c2 : Wa.cell? ⟨gv, 2, none⟩ = some (.int .u32 (x2 : Int)) := by rw [← hd]; exact c2
      replace c3 : Wa.cell? ⟨gv, 3, none⟩ = some (.int .u32 (x3 : Int)) := by rw [← hd]; exact c3
      replace c4 : Wa.cell? ⟨gv, 4, none⟩ = some (.int .u32 (x4 : Int)) := by rw [← hd]; exact c4
      replace c5 : Wa.cell? ⟨gv, 5, none⟩ = some (.int .u32 (x5 : Int)) := by rw [← hd]; exact c5
      replace c6 : Wa.cell? ⟨gv, 6, none⟩ = some (.int .u32 (x6 : Int)) := by rw [← hd]; exact c6
      replace HBv : Hid (Below wc.heap.size wc Wa) := by rw [← hd]; exact HBv.out.drew
      clear hX hd c7 HRv
      refine wp_region_still_tail 38 (by kernel_rfl) (by kernel_rfl) ?_
      simp only [List.take_succ_cons, List.take_zero, List.drop_succ_cons, List.drop_zero]
      repeat still_step
      still_call (qturn2e _ L0.out E2.out)
      repeat still_step
      still_call (qturn13e _ L0.out E13.out)
      repeat still_step
      still_call (qturn22e _ L0.out E22.out)
      repeat still_step
      refine wpStill_nil ?_
      clear s1 s2 s3 s4 s5 s6 s7 s8
      go_wp2_with fail
      generalize hX : ({ heap := Wa.heap, tape := Wa.tape, drawn := Wa.drawn + 1, os := Wa.os, output := Wa.output } : World) = Wb
      have hd : Wa.drew = Wb := hX
      replace c0 : Wb.cell? ⟨gv, 0, none⟩ = some (.int .u32 (x0 : Int)) := by rw [← hd]; exact c0
      replace c1 : Wb.cell? ⟨gv, 1, none⟩ = some (.int .u32 (x1 : Int)) := by rw [← hd]; exact c1
      replace c2 : Wb.cell? ⟨gv, 2, none⟩ = some (.int .u32 (x2 : Int)) := by rw [← hd]; exact c2
      replace c3 : Wb.cell? ⟨gv, 3, none⟩ = some (.int .u32 (x3 : Int)) := by rw [← hd]; exact c3
      replace c4 : Wb.cell? ⟨gv, 4, none⟩ = some (.int .u32 (x4 : Int)) := by rw [← hd]; exact c4
      replace c5 : Wb.cell? ⟨gv, 5, none⟩ = some (.int .u32 (x5 : Int)) := by rw [← hd]; exact c5
      replace c6 : Wb.cell? ⟨gv, 6, none⟩ = some (.int .u32 (x6 : Int)) := by rw [← hd]; exact c6
      replace HBv : Hid (Below wc.heap.size wc Wb) := by rw [← hd]; exact HBv.out.drew
      clear hX hd
      refine wp_region_still_tail 26 (by kernel_rfl) (by kernel_rfl) ?_
      simp only [List.take_succ_cons, List.take_zero, List.drop_succ_cons, List.drop_zero]
      repeat still_step
      refine wpStill_nil ?_
      clear c0 c1 c2 c3 c4 c5 c6
      go_wp2_with fail
      go_roundg g5
      case measure => omega
      case rel =>
        refine ⟨i + 1, Wb.heap.size, 8, HI.out, by go_num, rfl, Nat.le_refl _, ?_, ?_, (HBv.out.drew).alloc (by simp; exact HBv.out.size) _⟩
        · rw [HS.out]; exact Row.newL Wb.drew (us [z0, x0, x1, x2, z4, x4, x5, x6]) 51
        · exact Nat.le_trans hqq HBv.out.size
    · obtain rfl : i = 64 := by omega
      clear hig hi64
      go_wp2_with fail
      exact ⟨gv, cv, rfl, hcv, HRv.out, HGV.out, HBv.out⟩
end Go.Proofs.Ytdcmjmmfclhfbaa
