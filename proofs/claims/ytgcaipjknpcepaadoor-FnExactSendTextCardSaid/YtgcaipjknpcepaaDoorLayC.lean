/- The laying of the test on colors. -/
import Derived.Test.YtgcaipjknpcepaaDoorLayM
